import Derived.Test.YtkimmfdicohoiaaRfThr
import Derived.Test.YtkimmfdicohoiaaRfAcc
import Derived.Deep.LoopGhost
import Derived.Deep.Cut
/-
  THE DOCUMENT's MACHINE: New at any configuration, from its threads on.
-/
namespace Go.Proofs.Ytkimmfdicohoiaa.Rf
open Go.RowKit Mr Me Ma
set_option linter.unusedVariables false
noncomputable def codeR : Code := tl 5 (Try.f12.body.getD .skip)
noncomputable def codeS : Code := tl 4 (Try.f12.body.getD .skip)
noncomputable def codeN : Code := tl 3 (Try.f12.body.getD .skip)
theorem thr_snoc (j : Nat) : (List.replicate j rt0).flatMap Rt.cells ++ tcA.toList = (List.replicate (j + 1) rt0).flatMap Rt.cells := by
  rw [List.replicate_succ', List.flatMap_append]
  simp [tcA]
theorem info_ints : (Try.prog.info? 51).map (fun i => (i.zero, i.size, i.bytes)) = some (some (.slice none 0 0), 1, 24) := by kernel_rfl
theorem info_int4 : (Try.prog.info? 3).map (fun i => (i.zero, i.size, i.bytes)) = some (some (.int .i64 0), 1, 8) := by kernel_rfl
theorem info_state : (Try.prog.info? 38).map (fun i => (i.zero, i.size, i.bytes)) = some (some (.int .i64 0), 1, 8) := by kernel_rfl
/-- The states at the beginning. -/
def stsOf (us : Int) (n : Nat) : List Int := (List.range n).map (fun i : Nat => if (i : Int) < us then (3 : Int) else 0)
theorem sts_snoc (us : Int) (n : Nat) : stsOf us (n + 1) = stsOf us n ++ [if (n : Int) < us then 3 else 0] := by simp [stsOf, List.range_succ]
theorem nums_snoc4 (L : List Int) (x : Int) : nums (L ++ [x]) = nums L ++ [.int .i64 x] := by simp [nums]
/-- A row of a box is appended to. -/
theorem grow_row {W0 W wr w1 : World} {b fi g cap' j sz : Nat} {t e : TypeId} {cs : Array Value} {o : Obj} {v : Value} {xs ys : List Value} {S : Nat → Prop} (hby : wr.heap[b]? = some (.cells cs t (0, 0))) (hte : t ≠ e) (hth : Has wr S e sz v j xs) (hBy : Below W0.heap.size W0 wr) (hFy : Fr W wr (fun k => k = b)) (h0 : W0.heap.size ≤ b) (hS : ∀ k, S k → W.heap.size ≤ k) (hWW : W0.heap.size ≤ W.heap.size)
    (hown : Has w1 S e sz (.slice (some ⟨g, 0, none⟩) (j + 1) cap') (j + 1) ys) (hgrow : (wr.alloc o).grownBy w1 v.ownBlock) :
    w1.heap[b]? = some (.cells cs t (0, 0)) ∧ Below W0.heap.size W0 (w1.setCell ⟨b, fi, none⟩ (.slice (some ⟨g, 0, none⟩) (j + 1) cap')) ∧ Fr W (w1.setCell ⟨b, fi, none⟩ (.slice (some ⟨g, 0, none⟩) (j + 1) cap')) (fun k => k = b) ∧ (w1.setCell ⟨b, fi, none⟩ (.slice (some ⟨g, 0, none⟩) (j + 1) cap')).heap[b]? = some (.cells (cs.setIfInBounds fi (.slice (some ⟨g, 0, none⟩) (j + 1) cap')) t (0, 0)) ∧
      Has (w1.setCell ⟨b, fi, none⟩ (.slice (some ⟨g, 0, none⟩) (j + 1) cap')) S e sz (.slice (some ⟨g, 0, none⟩) (j + 1) cap') (j + 1) ys ∧ ∀ (S' : Nat → Prop) (e' : TypeId) (sz' n' : Nat) (v'' : Value) (xs' : List Value), Has wr S' e' sz' v'' n' xs' → e' ≠ e → t ≠ e' → Has (w1.setCell ⟨b, fi, none⟩ (.slice (some ⟨g, 0, none⟩) (j + 1) cap')) S' e' sz' v'' n' xs' := by
  have lb := (Array.getElem?_eq_some_iff.1 hby).1
  have nvb : v.ownBlock ≠ some b := not_row hby hth hte
  have kb : w1.heap[b]? = some (.cells cs t (0, 0)) := (hgrow.block b (by simp; omega) (fun e => nvb e.symm)).trans ((Below.heap_alloc _ _ _ lb).trans hby)
  have nvb' : (Value.slice (some ⟨g, 0, none⟩) (j + 1) cap').ownBlock ≠ some b := not_row kb hown hte
  have hBa : Below W0.heap.size W0 (wr.alloc o) := hBy.alloc hBy.size _
  have hBg : Below W0.heap.size W0 w1 := hBa.grown hgrow (by have := hBy.size; simp; omega) (fun k hk => by have := hS k (hth.lt k hk).1; omega)
  have hFa : Fr W (wr.alloc o) (fun k => k = b) := hFy.alloc _
  refine ⟨kb, hBg.setCell (p := ⟨b, fi, none⟩) h0 _, (hFa.grown hgrow (fun k hk => .inr (hS k (hth.lt k hk).1))).setCell _ _ (.inl rfl), setBlk kb fi _, hown.setCell _ _ nvb', fun S' e' sz' n' v'' xs' h' h1 h2 => ?_⟩
  have nb : v''.ownBlock ≠ some b := not_row hby h' h2
  exact ((h'.alloc o).grown hgrow (fun k hk e => has_ne h' hth h1 k hk e)).setCell _ _ nb
set_option maxRecDepth 100000 in
set_option maxHeartbeats 4000000 in
theorem new_recs {W0 W : World} {nt nr ns b b5 : Nat} {c2 c3 c4 c6 : Int} {vw vcd vlb ven vt vst vho : Value} (hnr : nr ≤ 100000) (hb5 : W.heap[b5]? = some (.cells #[.int .i64 (nt : Int), .int .i64 (nr : Int), .int .i64 c2, .int .i64 c3, .int .i64 c4, .int .i64 (ns : Int), .int .i64 c6] 23 (0, 0))) (hb : W.heap[b]? = some (.cells #[.int .i64 (nt : Int), .int .i64 (nr : Int), .int .i64 c2, .int .i64 c3, .int .i64 c4, .int .i64 (ns : Int), .int .i64 c6, vw, vcd, vlb, ven, vt, vst, vho, nilS, u0, u0, u0, u0, u0, u0, u0, u0, .int .i64 0, nilS, nilS, nilS] 60 (0, 0))) (h0 : W0.heap.size ≤ b) (hB : Below W0.heap.size W0 W) {z0 z1 z2 z3 z4 z6 z7 z8 z9 z10 z12 z13 z14 z15 z16 z17 z18 z19 z20 z21 z22 z23 z24 z25 z26 z27 z28 z29 z30 z31 z32 z33 z34 z35 z36 z37 z38 z39 z40 z41 z42 z43 z44 z45 z46 z47 z48 z49 z50 z51 z52 z53 z54 z55 z56 z57 z58 z59 z60 z61 z62 z63 z64 z65 z66 z67 z68 z69 z70 z71 z72 z73 z74 z75 z76 z77 z78 z79 z80 z81 z82 z83 z84 z85 z86 z87 z88 z89 z90 z91 z92 z93 z94 z95 z96 z97 z98 z99 z100 z101 z102 z103 z104 z105 z106 z107 z108 z109 z110 z111 z112 z113 z114 z115 z116 z117 z118 z119 z120 : Value} {R : World → Prop}
    (hQ : ∀ (w' : World) (vli : Value), Below W0.heap.size W0 w' → Fr W w' (fun k => k = b) → w'.heap[b]? = some (.cells #[.int .i64 (nt : Int), .int .i64 (nr : Int), .int .i64 c2, .int .i64 c3, .int .i64 c4, .int .i64 (ns : Int), .int .i64 c6, vw, vcd, vlb, ven, vt, vst, vho, vli, u0, u0, u0, u0, u0, u0, u0, u0, .int .i64 0, nilS, nilS, nilS] 60 (0, 0)) → Has w' (fun k => W.heap.size ≤ k) 51 1 vli nr (List.replicate nr nilS) → R w') :
    Code.wp Try.prog codeR (bodyPost Try.prog Try.f12 fun e w' => e = .returned (.pointer (some ⟨b, 0, none⟩)) ∧ R w') ⟨#[z0, z1, z2, z3, z4, .pointer (some ⟨b5, 0, none⟩), z6, z7, z8, z9, z10, .pointer (some ⟨b, 0, none⟩), z12, z13, z14, z15, z16, z17, z18, z19, z20, z21, z22, z23, z24, z25, z26, z27, z28, z29, z30, z31, z32, z33, z34, z35, z36, z37, z38, z39, z40, z41, z42, z43, z44, z45, z46, z47, z48, z49, z50, z51, z52, z53, z54, z55, z56, z57, z58, z59, z60, z61, z62, z63, z64, z65, z66, z67, z68, z69, z70, z71, z72, z73, z74, z75, z76, z77, z78, z79, z80, z81, z82, z83, z84, z85, z86, z87, z88, z89, z90, z91, z92, z93, z94, z95, z96, z97, z98, z99, z100, z101, z102, z103, z104, z105, z106, z107, z108, z109, z110, z111, z112, z113, z114, z115, z116, z117, z118, z119, z120], []⟩ W := by
  obtain ⟨i0, hi, hz0, hz1, hz2⟩ := info_parts info_ints
  have n5 : b5 ≠ b := fun e => by rw [e, hb] at hb5; simp at hb5
  have n5' := n5.symm
  have hbl := (Array.getElem?_eq_some_iff.1 hb).1
  have h5l := (Array.getElem?_eq_some_iff.1 hb5).1
  have hWW := hB.size
  have c5 : ∀ w' : World, Fr W w' (fun k => k = b) → w'.cell? ⟨b5, 0, none⟩ = some (.int .i64 (nt : Int)) ∧ w'.cell? ⟨b5, 1, none⟩ = some (.int .i64 (nr : Int)) ∧ w'.cell? ⟨b5, 5, none⟩ = some (.int .i64 (ns : Int)) ∧ b5 < w'.heap.size ∧ b < w'.heap.size := fun w' hF => by
    have e := (hF.block b5 h5l n5).trans hb5
    have := hF.size
    simp [World.cell?, e]
    omega
  have c5' : ∀ w' : World, Fr W w' (fun k => k = b) → w'.heap[b5]? = some (.cells #[.int .i64 (nt : Int), .int .i64 (nr : Int), .int .i64 c2, .int .i64 c3, .int .i64 c4, .int .i64 (ns : Int), .int .i64 c6] 23 (0, 0)) := fun w' hF => (hF.block b5 h5l n5).trans hb5
  have cb : ∀ (w' : World) (v : Value), w'.heap[b]? = some (.cells #[.int .i64 (nt : Int), .int .i64 (nr : Int), .int .i64 c2, .int .i64 c3, .int .i64 c4, .int .i64 (ns : Int), .int .i64 c6, vw, vcd, vlb, ven, vt, vst, vho, v, u0, u0, u0, u0, u0, u0, u0, u0, .int .i64 0, nilS, nilS, nilS] 60 (0, 0)) → w'.cell? ⟨b, 14, none⟩ = some v ∧ w'.frozen? ⟨b, 14, none⟩ = false := fun w' v e => by simp [World.cell?, World.frozen?, e]
  replace cb := Mr.hid cb
  replace c5 := Mr.hid c5
  replace c5' := Mr.hid c5'
  replace hQ := Mr.hid hQ
  replace hB := Mr.hid hB
  replace hb5 := Mr.hid hb5
  replace hb := Mr.hid hb
  unfold codeR
  conv => arg 2; whnf
  go_wp2
  go_loopg [17] nr (fun k z wy => ∃ (j : Nat) (v : Value), z = .int .i64 (j : Int) ∧ j + k = nr ∧ Below W0.heap.size W0 wy ∧ Fr W wy (fun k => k = b) ∧ wy.heap[b]? = some (.cells #[.int .i64 (nt : Int), .int .i64 (nr : Int), .int .i64 c2, .int .i64 c3, .int .i64 c4, .int .i64 (ns : Int), .int .i64 c6, vw, vcd, vlb, ven, vt, vst, vho, v, u0, u0, u0, u0, u0, u0, u0, u0, .int .i64 0, nilS, nilS, nilS] 60 (0, 0)) ∧ Has wy (fun k => W.heap.size ≤ k) 51 1 v j (List.replicate j nilS))
  case atStart => exact ⟨0, nilS, rfl, by omega, hB.out, Fr.refl _ _, hb.out, Has.nil _ _ _ _⟩
  case round =>
    obtain ⟨j, v, rfl, hjk, hBy, hFy, hby, hth⟩ := hrel
    clear hB
    obtain ⟨y0, y1, y5, l5, lb⟩ := c5.out wr hFy
    obtain ⟨x14, f14⟩ := cb.out wr v hby
    obtain ⟨a, cap, hv, hle⟩ := hth.form
    subst hv
    have hst : W.heap.size ≤ wr.heap.size := hFy.size
    by_cases hj : j < nr
    · have d0 : decide ((j : Int) < (nr : Int)) = true := decide_eq_true (by omega)
      have law := hth.alloc (.cells #[nilS] 51)
      have news := newsAt wr _ #[nilS] 51 wr.heap.size rfl rfl
      have FN := fun (w1 : World) (g cap' : Nat) (hown : Has w1 (fun k => W.heap.size ≤ k) 51 1 (.slice (some ⟨g, 0, none⟩) (j + 1) cap') (j + 1) (List.replicate j nilS ++ [nilS])) (hgrow : (wr.alloc (.cells #[nilS] 51)).grownBy w1 (Value.slice a j cap).ownBlock) => grow_row (fi := 14) hby (by decide) hth hBy hFy h0 (fun _ h => h) hWW hown hgrow
      replace FN := Mr.hid FN
      replace hBy := Mr.hid hBy
      replace hFy := Mr.hid hFy
      replace hby := Mr.hid hby
      replace hth := Mr.hid hth
      replace law := Mr.hid law
      replace news := Mr.hid news
      go_wp2_with (at_builtin; refine wpList_append_has _ rfl (.tmp 115) (.tmp 116) 41 rfl (fun k => W.heap.size ≤ k) 51 i0 _ 1 24 Try.underlying41 hi hz0 hz1 hz2 rfl (.slice a j cap) j (List.replicate j nilS) rfl law.out ⟨wr.heap.size, 0, none⟩ 1 1 [nilS] rfl rfl news.out (by simp [Value.oneCell', nilS]) (by omega) (by unfold maxLen; omega) (by omega) (by simp; omega) ?_; intro g cap' w1 hown hgrow hat; obtain ⟨kb, F9⟩ := FN.out w1 g cap' hown hgrow; obtain ⟨k1, k2⟩ := cb.out w1 _ kb; clear FN hown hgrow hat kb; replace F9 := Mr.hid F9)
      go_roundg (gk - 1)
      case measure => omega
      case rel =>
        obtain ⟨r1, r2, r3, r4, _⟩ := F9.out
        exact ⟨j + 1, _, by simp, by omega, r1, r2, r3, by rw [List.replicate_succ']; exact r4⟩
    · have d0 : decide ((j : Int) < (nr : Int)) = false := decide_eq_false (by omega)
      obtain rfl : j = nr := by omega
      have F9 := Mr.hid (hQ.out wr _ hBy hFy hby hth)
      replace hBy := Mr.hid hBy
      replace hFy := Mr.hid hFy
      replace hby := Mr.hid hby
      replace hth := Mr.hid hth
      go_wp2
      go_ret
      exact ⟨rfl, F9.out⟩

set_option maxRecDepth 100000 in
set_option maxHeartbeats 4000000 in
theorem new_slots {W0 W : World} {nt nr ns b b5 : Nat} {us c2 c3 c4 c6 : Int} {vw vcd vlb ven vt : Value} (hnr : nr ≤ 100000) (hns : ns ≤ 100000) (hb5 : W.heap[b5]? = some (.cells #[.int .i64 (nt : Int), .int .i64 (nr : Int), .int .i64 c2, .int .i64 c3, .int .i64 c4, .int .i64 (ns : Int), .int .i64 c6] 23 (0, 0))) (hb : W.heap[b]? = some (.cells #[.int .i64 (nt : Int), .int .i64 (nr : Int), .int .i64 c2, .int .i64 c3, .int .i64 c4, .int .i64 (ns : Int), .int .i64 c6, vw, vcd, vlb, ven, vt, nilS, nilS, nilS, u0, u0, u0, u0, u0, u0, u0, u0, .int .i64 0, nilS, nilS, nilS] 60 (0, 0))) (h0 : W0.heap.size ≤ b) (hB : Below W0.heap.size W0 W) {z0 z2 z3 z4 z6 z7 z8 z9 z10 z12 z13 z14 z15 z16 z17 z18 z19 z20 z21 z22 z23 z24 z25 z26 z27 z28 z29 z30 z31 z32 z33 z34 z35 z36 z37 z38 z39 z40 z41 z42 z43 z44 z45 z46 z47 z48 z49 z50 z51 z52 z53 z54 z55 z56 z57 z58 z59 z60 z61 z62 z63 z64 z65 z66 z67 z68 z69 z70 z71 z72 z73 z74 z75 z76 z77 z78 z79 z80 z81 z82 z83 z84 z85 z86 z87 z88 z89 z90 z91 z92 z93 z94 z95 z96 z97 z98 z99 z100 z101 z102 z103 z104 z105 z106 z107 z108 z109 z110 z111 z112 z113 z114 z115 z116 z117 z118 z119 z120 : Value} {R : World → Prop}
    (hQ : ∀ (w' : World) (vst vho vli : Value), Below W0.heap.size W0 w' → Fr W w' (fun k => k = b) → w'.heap[b]? = some (.cells #[.int .i64 (nt : Int), .int .i64 (nr : Int), .int .i64 c2, .int .i64 c3, .int .i64 c4, .int .i64 (ns : Int), .int .i64 c6, vw, vcd, vlb, ven, vt, vst, vho, vli, u0, u0, u0, u0, u0, u0, u0, u0, .int .i64 0, nilS, nilS, nilS] 60 (0, 0)) → Has w' (fun k => W.heap.size ≤ k) 38 1 vst ns (nums (stsOf us ns)) → Has w' (fun k => W.heap.size ≤ k) 3 1 vho ns (nums (List.replicate ns (-1))) → Has w' (fun k => W.heap.size ≤ k) 51 1 vli nr (List.replicate nr nilS) → R w') :
    Code.wp Try.prog codeS (bodyPost Try.prog Try.f12 fun e w' => e = .returned (.pointer (some ⟨b, 0, none⟩)) ∧ R w') ⟨#[z0, .int .i64 us, z2, z3, z4, .pointer (some ⟨b5, 0, none⟩), z6, z7, z8, z9, z10, .pointer (some ⟨b, 0, none⟩), z12, z13, z14, z15, z16, z17, z18, z19, z20, z21, z22, z23, z24, z25, z26, z27, z28, z29, z30, z31, z32, z33, z34, z35, z36, z37, z38, z39, z40, z41, z42, z43, z44, z45, z46, z47, z48, z49, z50, z51, z52, z53, z54, z55, z56, z57, z58, z59, z60, z61, z62, z63, z64, z65, z66, z67, z68, z69, z70, z71, z72, z73, z74, z75, z76, z77, z78, z79, z80, z81, z82, z83, z84, z85, z86, z87, z88, z89, z90, z91, z92, z93, z94, z95, z96, z97, z98, z99, z100, z101, z102, z103, z104, z105, z106, z107, z108, z109, z110, z111, z112, z113, z114, z115, z116, z117, z118, z119, z120], []⟩ W := by
  obtain ⟨i0, hi, hz0, hz1, hz2⟩ := info_parts info_state
  obtain ⟨i9, hi9, hz90, hz91, hz92⟩ := info_parts info_int4
  have n5 : b5 ≠ b := fun e => by rw [e, hb] at hb5; simp at hb5
  have n5' := n5.symm
  have hbl := (Array.getElem?_eq_some_iff.1 hb).1
  have h5l := (Array.getElem?_eq_some_iff.1 hb5).1
  have hWW := hB.size
  have c5 : ∀ w' : World, Fr W w' (fun k => k = b) → w'.cell? ⟨b5, 0, none⟩ = some (.int .i64 (nt : Int)) ∧ w'.cell? ⟨b5, 1, none⟩ = some (.int .i64 (nr : Int)) ∧ w'.cell? ⟨b5, 5, none⟩ = some (.int .i64 (ns : Int)) ∧ b5 < w'.heap.size ∧ b < w'.heap.size := fun w' hF => by
    have e := (hF.block b5 h5l n5).trans hb5
    have := hF.size
    simp [World.cell?, e]
    omega
  have c5' : ∀ w' : World, Fr W w' (fun k => k = b) → w'.heap[b5]? = some (.cells #[.int .i64 (nt : Int), .int .i64 (nr : Int), .int .i64 c2, .int .i64 c3, .int .i64 c4, .int .i64 (ns : Int), .int .i64 c6] 23 (0, 0)) := fun w' hF => (hF.block b5 h5l n5).trans hb5
  have cb : ∀ (w' : World) (v u : Value), w'.heap[b]? = some (.cells #[.int .i64 (nt : Int), .int .i64 (nr : Int), .int .i64 c2, .int .i64 c3, .int .i64 c4, .int .i64 (ns : Int), .int .i64 c6, vw, vcd, vlb, ven, vt, v, u, nilS, u0, u0, u0, u0, u0, u0, u0, u0, .int .i64 0, nilS, nilS, nilS] 60 (0, 0)) → w'.cell? ⟨b, 12, none⟩ = some v ∧ w'.frozen? ⟨b, 12, none⟩ = false ∧ w'.cell? ⟨b, 13, none⟩ = some u ∧ w'.frozen? ⟨b, 13, none⟩ = false := fun w' v u e => by simp [World.cell?, World.frozen?, e]
  replace cb := Mr.hid cb
  replace c5 := Mr.hid c5
  replace c5' := Mr.hid c5'
  replace hQ := Mr.hid hQ
  replace hB := Mr.hid hB
  replace hb5 := Mr.hid hb5
  replace hb := Mr.hid hb
  unfold codeS
  conv => arg 2; whnf
  go_wp2
  rename (∀ (a : Act) (w : World), Code.wp _ (Code.seq _ _) _ a w → _) => hK1
  replace hK1 := Mr.hid hK1
  go_loopg [15] ns (fun k z wy => ∃ (j : Nat) (v u : Value), z = .int .i64 (j : Int) ∧ j + k = ns ∧ Below W0.heap.size W0 wy ∧ Fr W wy (fun k => k = b) ∧ wy.heap[b]? = some (.cells #[.int .i64 (nt : Int), .int .i64 (nr : Int), .int .i64 c2, .int .i64 c3, .int .i64 c4, .int .i64 (ns : Int), .int .i64 c6, vw, vcd, vlb, ven, vt, v, u, nilS, u0, u0, u0, u0, u0, u0, u0, u0, .int .i64 0, nilS, nilS, nilS] 60 (0, 0)) ∧ Has wy (fun k => W.heap.size ≤ k) 38 1 v j (nums (stsOf us j)) ∧ Has wy (fun k => W.heap.size ≤ k) 3 1 u j (nums (List.replicate j (-1))))
  case atStart => exact ⟨0, nilS, nilS, rfl, by omega, hB.out, Fr.refl _ _, hb.out, Has.nil _ _ _ _, Has.nil _ _ _ _⟩
  case round =>
    obtain ⟨j, v, u, rfl, hjk, hBy, hFy, hby, hth, hho⟩ := hrel
    clear hB
    obtain ⟨y0, y1, y5, l5, lb⟩ := c5.out wr hFy
    obtain ⟨x12, f12, x13, f13⟩ := cb.out wr v u hby
    obtain ⟨a, cap, hv, hle⟩ := hth.form
    subst hv
    obtain ⟨a', cap2, hv, hle2⟩ := hho.form
    subst hv
    have hst : W.heap.size ≤ wr.heap.size := hFy.size
    by_cases hj : j < ns
    · have d0 : decide ((j : Int) < (ns : Int)) = true := decide_eq_true (by omega)
      obtain ⟨x, hx⟩ : ∃ x : Int, (if (j : Int) < us then 3 else 0) = x := ⟨_, rfl⟩
      have law := hth.alloc (.cells #[.int .i64 x] 38)
      have news := newsAt wr _ #[.int .i64 x] 38 wr.heap.size rfl rfl
      have FN := fun (w1 : World) (g cap' : Nat) (hown : Has w1 (fun k => W.heap.size ≤ k) 38 1 (.slice (some ⟨g, 0, none⟩) (j + 1) cap') (j + 1) (nums (stsOf us j) ++ [.int .i64 x])) (hgrow : (wr.alloc (.cells #[.int .i64 x] 38)).grownBy w1 (Value.slice a j cap).ownBlock) => grow_row (fi := 12) hby (by decide) hth hBy hFy h0 (fun _ h => h) hWW hown hgrow
      replace FN := Mr.hid FN
      replace hBy := Mr.hid hBy
      replace hFy := Mr.hid hFy
      replace hby := Mr.hid hby
      replace hth := Mr.hid hth
      replace hho := Mr.hid hho
      replace law := Mr.hid law
      replace news := Mr.hid news
      by_cases hu : (j : Int) < us
      · have du : decide ((j : Int) < us) = true := decide_eq_true hu
        rw [if_pos hu] at hx
        subst hx
        replace hu := Mr.hid hu
        go_upto_region 21 with (at_builtin; refine wpList_append_has _ rfl (.tmp 90) (.tmp 92) 53 rfl (fun k => W.heap.size ≤ k) 38 i0 _ 1 8 Try.underlying53 hi hz0 hz1 hz2 rfl (.slice a j cap) j (nums (stsOf us j)) rfl law.out ⟨wr.heap.size, 0, none⟩ 1 1 [.int .i64 3] rfl rfl news.out (by simp [Value.oneCell']) (by omega) (by unfold maxLen; omega) (by omega) (by simp; omega) ?_; intro g cap' w1 hown hgrow hat; obtain ⟨kb, F9⟩ := FN.out w1 g cap' hown hgrow; obtain ⟨k1, k2, k3, k4⟩ := cb.out w1 _ _ kb; clear FN hown hgrow hat kb; replace F9 := Mr.hid F9)
        obtain ⟨wA, hwA⟩ : ∃ wA, w1.setCell ⟨b, 12, none⟩ (.slice (some ⟨g, 0, none⟩) (j + 1) cap') = wA := ⟨_, rfl⟩
        obtain ⟨r1, r2, r3, r4, r5⟩ := F9.out
        rw [hwA] at r1 r2 r3 r4 ⊢
        have hhoA : Has wA (fun k => W.heap.size ≤ k) 3 1 (.slice a' j cap2) j (nums (List.replicate j (-1))) := by rw [← hwA]; exact r5 _ _ _ _ _ _ hho.out (by decide) (by decide)
        have hbyA : wA.heap[b]? = some (.cells #[.int .i64 (nt : Int), .int .i64 (nr : Int), .int .i64 c2, .int .i64 c3, .int .i64 c4, .int .i64 (ns : Int), .int .i64 c6, vw, vcd, vlb, ven, vt, (.slice (some ⟨g, 0, none⟩) (j + 1) cap'), (.slice a' j cap2), nilS, u0, u0, u0, u0, u0, u0, u0, u0, .int .i64 0, nilS, nilS, nilS] 60 (0, 0)) := r3
        obtain ⟨m1, m2, m3, m4⟩ := cb.out wA _ _ hbyA
        have hsA : W.heap.size ≤ wA.heap.size := r2.size
        have lbA : b < wA.heap.size := (Array.getElem?_eq_some_iff.1 hbyA).1
        have law2 := hhoA.alloc (.cells #[.int .i64 (-1)] 3)
        have news2 := newsAt wA _ #[.int .i64 (-1)] 3 wA.heap.size rfl rfl
        have FN2 := fun (w2 : World) (g2 cap3 : Nat) (hown : Has w2 (fun k => W.heap.size ≤ k) 3 1 (.slice (some ⟨g2, 0, none⟩) (j + 1) cap3) (j + 1) (nums (List.replicate j (-1)) ++ [.int .i64 (-1)])) (hgrow : (wA.alloc (.cells #[.int .i64 (-1)] 3)).grownBy w2 (Value.slice a' j cap2).ownBlock) => grow_row (fi := 13) hbyA (by decide) hhoA r1 r2 h0 (fun _ h => h) hWW hown hgrow
        clear r5 hwA F9 k1 k2 k3 k4 law news x12 f12 x13 f13
        replace r1 := Mr.hid r1
        replace r2 := Mr.hid r2
        replace r3 := Mr.hid r3
        replace r4 := Mr.hid r4
        replace hhoA := Mr.hid hhoA
        replace hbyA := Mr.hid hbyA
        replace law2 := Mr.hid law2
        replace news2 := Mr.hid news2
        replace FN2 := Mr.hid FN2
        go_wp2_with (at_builtin; refine wpList_append_has _ rfl (.tmp 100) (.tmp 101) 51 rfl (fun k => W.heap.size ≤ k) 3 i9 _ 1 8 Try.underlying51 hi9 hz90 hz91 hz92 rfl (.slice a' j cap2) j (nums (List.replicate j (-1))) rfl law2.out ⟨wA.heap.size, 0, none⟩ 1 1 [.int .i64 (-1)] rfl rfl news2.out (by simp [Value.oneCell']) (by omega) (by unfold maxLen; omega) (by omega) (by simp; omega) ?_; intro g2 cap3 w2 hown hgrow hat; obtain ⟨kb, F9⟩ := FN2.out w2 g2 cap3 hown hgrow; obtain ⟨k1, k2, k3, k4⟩ := cb.out w2 _ _ kb; clear FN2 hown hgrow hat kb; replace F9 := Mr.hid F9)
        go_roundg (gk - 1)
        case measure => omega
        case rel =>
          obtain ⟨s1, s2, s3, s4, s5⟩ := F9.out
          refine ⟨j + 1, _, _, by simp, by omega, s1, s2, s3, ?_, ?_⟩
          · rw [sts_snoc, nums_snoc4, if_pos (by have := hu.out; omega)]
            exact s5 _ _ _ _ _ _ r4.out (by decide) (by decide)
          · rw [List.replicate_succ', nums_snoc4]
            exact s4
      · have du : decide ((j : Int) < us) = false := decide_eq_false hu
        rw [if_neg hu] at hx
        subst hx
        replace hu := Mr.hid hu
        go_upto_region 21 with (at_builtin; refine wpList_append_has _ rfl (.tmp 90) (.tmp 92) 53 rfl (fun k => W.heap.size ≤ k) 38 i0 _ 1 8 Try.underlying53 hi hz0 hz1 hz2 rfl (.slice a j cap) j (nums (stsOf us j)) rfl law.out ⟨wr.heap.size, 0, none⟩ 1 1 [.int .i64 0] rfl rfl news.out (by simp [Value.oneCell']) (by omega) (by unfold maxLen; omega) (by omega) (by simp; omega) ?_; intro g cap' w1 hown hgrow hat; obtain ⟨kb, F9⟩ := FN.out w1 g cap' hown hgrow; obtain ⟨k1, k2, k3, k4⟩ := cb.out w1 _ _ kb; clear FN hown hgrow hat kb; replace F9 := Mr.hid F9)
        obtain ⟨wA, hwA⟩ : ∃ wA, w1.setCell ⟨b, 12, none⟩ (.slice (some ⟨g, 0, none⟩) (j + 1) cap') = wA := ⟨_, rfl⟩
        obtain ⟨r1, r2, r3, r4, r5⟩ := F9.out
        rw [hwA] at r1 r2 r3 r4 ⊢
        have hhoA : Has wA (fun k => W.heap.size ≤ k) 3 1 (.slice a' j cap2) j (nums (List.replicate j (-1))) := by rw [← hwA]; exact r5 _ _ _ _ _ _ hho.out (by decide) (by decide)
        have hbyA : wA.heap[b]? = some (.cells #[.int .i64 (nt : Int), .int .i64 (nr : Int), .int .i64 c2, .int .i64 c3, .int .i64 c4, .int .i64 (ns : Int), .int .i64 c6, vw, vcd, vlb, ven, vt, (.slice (some ⟨g, 0, none⟩) (j + 1) cap'), (.slice a' j cap2), nilS, u0, u0, u0, u0, u0, u0, u0, u0, .int .i64 0, nilS, nilS, nilS] 60 (0, 0)) := r3
        obtain ⟨m1, m2, m3, m4⟩ := cb.out wA _ _ hbyA
        have hsA : W.heap.size ≤ wA.heap.size := r2.size
        have lbA : b < wA.heap.size := (Array.getElem?_eq_some_iff.1 hbyA).1
        have law2 := hhoA.alloc (.cells #[.int .i64 (-1)] 3)
        have news2 := newsAt wA _ #[.int .i64 (-1)] 3 wA.heap.size rfl rfl
        have FN2 := fun (w2 : World) (g2 cap3 : Nat) (hown : Has w2 (fun k => W.heap.size ≤ k) 3 1 (.slice (some ⟨g2, 0, none⟩) (j + 1) cap3) (j + 1) (nums (List.replicate j (-1)) ++ [.int .i64 (-1)])) (hgrow : (wA.alloc (.cells #[.int .i64 (-1)] 3)).grownBy w2 (Value.slice a' j cap2).ownBlock) => grow_row (fi := 13) hbyA (by decide) hhoA r1 r2 h0 (fun _ h => h) hWW hown hgrow
        clear r5 hwA F9 k1 k2 k3 k4 law news x12 f12 x13 f13
        replace r1 := Mr.hid r1
        replace r2 := Mr.hid r2
        replace r3 := Mr.hid r3
        replace r4 := Mr.hid r4
        replace hhoA := Mr.hid hhoA
        replace hbyA := Mr.hid hbyA
        replace law2 := Mr.hid law2
        replace news2 := Mr.hid news2
        replace FN2 := Mr.hid FN2
        go_wp2_with (at_builtin; refine wpList_append_has _ rfl (.tmp 100) (.tmp 101) 51 rfl (fun k => W.heap.size ≤ k) 3 i9 _ 1 8 Try.underlying51 hi9 hz90 hz91 hz92 rfl (.slice a' j cap2) j (nums (List.replicate j (-1))) rfl law2.out ⟨wA.heap.size, 0, none⟩ 1 1 [.int .i64 (-1)] rfl rfl news2.out (by simp [Value.oneCell']) (by omega) (by unfold maxLen; omega) (by omega) (by simp; omega) ?_; intro g2 cap3 w2 hown hgrow hat; obtain ⟨kb, F9⟩ := FN2.out w2 g2 cap3 hown hgrow; obtain ⟨k1, k2, k3, k4⟩ := cb.out w2 _ _ kb; clear FN2 hown hgrow hat kb; replace F9 := Mr.hid F9)
        go_roundg (gk - 1)
        case measure => omega
        case rel =>
          obtain ⟨s1, s2, s3, s4, s5⟩ := F9.out
          refine ⟨j + 1, _, _, by simp, by omega, s1, s2, s3, ?_, ?_⟩
          · rw [sts_snoc, nums_snoc4, if_neg (by have := hu.out; omega)]
            exact s5 _ _ _ _ _ _ r4.out (by decide) (by decide)
          · rw [List.replicate_succ', nums_snoc4]
            exact s4
    · have d0 : decide ((j : Int) < (ns : Int)) = false := decide_eq_false (by omega)
      obtain rfl : j = ns := by omega
      replace hBy := Mr.hid hBy
      replace hFy := Mr.hid hFy
      replace hby := Mr.hid hby
      replace hth := Mr.hid hth
      replace hho := Mr.hid hho
      go_wp2
      refine hK1.out _ _ ?_
      refine new_recs hnr (c5'.out wr hFy.out) hby.out h0 hBy.out (fun w' vli g1 g2 g3 g4 => ?_)
      have nv1 : (Value.slice a j cap).ownBlock ≠ some b := not_row hby.out hth.out (by decide)
      have nv2 : (Value.slice a' j cap2).ownBlock ≠ some b := not_row hby.out hho.out (by decide)
      exact hQ.out w' _ _ vli g1 (hFy.out.trans (g2.mono (fun _ hk => .inl hk))) g3 (hth.out.kept (fun k hk => g2.block k (hth.out.lt k hk).2 (fun e => nv1 (by rw [hk, e]))) (fun k hk => (hth.out.lt k hk).1)) (hho.out.kept (fun k hk => g2.block k (hho.out.lt k hk).2 (fun e => nv2 (by rw [hk, e]))) (fun k hk => (hho.out.lt k hk).1)) (g4.mono (fun k hk => by omega))

set_option maxRecDepth 100000 in
set_option maxHeartbeats 4000000 in
theorem new_thr {W0 W : World} {nt nr ns b b5 : Nat} {us c2 c3 c4 c6 : Int} {vw vcd vlb ven : Value} (hnt : nt ≤ 100000) (hnr : nr ≤ 100000) (hns : ns ≤ 100000) (hb5 : W.heap[b5]? = some (.cells #[.int .i64 (nt : Int), .int .i64 (nr : Int), .int .i64 c2, .int .i64 c3, .int .i64 c4, .int .i64 (ns : Int), .int .i64 c6] 23 (0, 0))) (hb : W.heap[b]? = some (.cells #[.int .i64 (nt : Int), .int .i64 (nr : Int), .int .i64 c2, .int .i64 c3, .int .i64 c4, .int .i64 (ns : Int), .int .i64 c6, vw, vcd, vlb, ven, nilS, nilS, nilS, nilS, u0, u0, u0, u0, u0, u0, u0, u0, .int .i64 0, nilS, nilS, nilS] 60 (0, 0))) (h0 : W0.heap.size ≤ b) (hB : Below W0.heap.size W0 W) {z0 z2 z3 z4 z6 z7 z8 z9 z10 z12 z13 z14 z15 z16 z17 z18 z19 z20 z21 z22 z23 z24 z25 z26 z27 z28 z29 z30 z31 z32 z33 z34 z35 z36 z37 z38 z39 z40 z41 z42 z43 z44 z45 z46 z47 z48 z49 z50 z51 z52 z53 z54 z55 z56 z57 z58 z59 z60 z61 z62 z63 z64 z65 z66 z67 z68 z69 z70 z71 z72 z73 z74 z75 z76 z77 z78 z79 z80 z81 z82 z83 z84 z85 z86 z87 z88 z89 z90 z91 z92 z93 z94 z95 z96 z97 z98 z99 z100 z101 z102 z103 z104 z105 z106 z107 z108 z109 z110 z111 z112 z113 z114 z115 z116 z117 z118 z119 z120 : Value} {R : World → Prop}
    (hQ : ∀ (w' : World) (vt vst vho vli : Value), Below W0.heap.size W0 w' → Fr W w' (fun k => k = b) → w'.heap[b]? = some (.cells #[.int .i64 (nt : Int), .int .i64 (nr : Int), .int .i64 c2, .int .i64 c3, .int .i64 c4, .int .i64 (ns : Int), .int .i64 c6, vw, vcd, vlb, ven, vt, vst, vho, vli, u0, u0, u0, u0, u0, u0, u0, u0, .int .i64 0, nilS, nilS, nilS] 60 (0, 0)) → Has w' (fun k => W.heap.size ≤ k) 66 658 vt nt ((List.replicate nt rt0).flatMap Rt.cells) → Has w' (fun k => W.heap.size ≤ k) 38 1 vst ns (nums (stsOf us ns)) → Has w' (fun k => W.heap.size ≤ k) 3 1 vho ns (nums (List.replicate ns (-1))) → Has w' (fun k => W.heap.size ≤ k) 51 1 vli nr (List.replicate nr nilS) → R w') :
    Code.wp Try.prog codeN (bodyPost Try.prog Try.f12 fun e w' => e = .returned (.pointer (some ⟨b, 0, none⟩)) ∧ R w') ⟨#[z0, .int .i64 us, z2, z3, z4, .pointer (some ⟨b5, 0, none⟩), z6, z7, z8, z9, z10, .pointer (some ⟨b, 0, none⟩), z12, z13, z14, z15, z16, z17, z18, z19, z20, z21, z22, z23, z24, z25, z26, z27, z28, z29, z30, z31, z32, z33, z34, z35, z36, z37, z38, z39, z40, z41, z42, z43, z44, z45, z46, z47, z48, z49, z50, z51, z52, z53, z54, z55, z56, z57, z58, z59, z60, z61, z62, z63, z64, z65, z66, z67, z68, z69, z70, z71, z72, z73, z74, z75, z76, z77, z78, z79, z80, z81, z82, z83, z84, z85, z86, z87, z88, z89, z90, z91, z92, z93, z94, z95, z96, z97, z98, z99, z100, z101, z102, z103, z104, z105, z106, z107, z108, z109, z110, z111, z112, z113, z114, z115, z116, z117, z118, z119, z120], []⟩ W := by
  obtain ⟨i0, hi, hz0, hz1, hz2⟩ := info_parts info_thr
  have n5 : b5 ≠ b := fun e => by rw [e, hb] at hb5; simp at hb5
  have n5' := n5.symm
  have hbl := (Array.getElem?_eq_some_iff.1 hb).1
  have h5l := (Array.getElem?_eq_some_iff.1 hb5).1
  have hWW := hB.size
  have c5 : ∀ w' : World, Fr W w' (fun k => k = b) → w'.cell? ⟨b5, 0, none⟩ = some (.int .i64 (nt : Int)) ∧ w'.cell? ⟨b5, 1, none⟩ = some (.int .i64 (nr : Int)) ∧ w'.cell? ⟨b5, 5, none⟩ = some (.int .i64 (ns : Int)) ∧ b5 < w'.heap.size ∧ b < w'.heap.size := fun w' hF => by
    have e := (hF.block b5 h5l n5).trans hb5
    have := hF.size
    simp [World.cell?, e]
    omega
  have c5' : ∀ w' : World, Fr W w' (fun k => k = b) → w'.heap[b5]? = some (.cells #[.int .i64 (nt : Int), .int .i64 (nr : Int), .int .i64 c2, .int .i64 c3, .int .i64 c4, .int .i64 (ns : Int), .int .i64 c6] 23 (0, 0)) := fun w' hF => (hF.block b5 h5l n5).trans hb5
  have cb : ∀ (w' : World) (v : Value), w'.heap[b]? = some (.cells #[.int .i64 (nt : Int), .int .i64 (nr : Int), .int .i64 c2, .int .i64 c3, .int .i64 c4, .int .i64 (ns : Int), .int .i64 c6, vw, vcd, vlb, ven, v, nilS, nilS, nilS, u0, u0, u0, u0, u0, u0, u0, u0, .int .i64 0, nilS, nilS, nilS] 60 (0, 0)) → w'.cell? ⟨b, 11, none⟩ = some v ∧ w'.frozen? ⟨b, 11, none⟩ = false := fun w' v e => by simp [World.cell?, World.frozen?, e]
  have one : ∀ u ∈ tcA.toList, u.oneCell' = true := fun u hu => one_cells rt0 rfl rfl u (by simpa [tcA] using hu)
  have tl658 : tcA.toList.length = 658 := by rw [Array.length_toList]; exact tcA_size
  have zl658 : (Value.agg zA).cells.size = 658 := zA_size
  replace cb := Mr.hid cb
  replace one := Mr.hid one
  replace c5 := Mr.hid c5
  replace c5' := Mr.hid c5'
  replace hQ := Mr.hid hQ
  replace hB := Mr.hid hB
  replace hb5 := Mr.hid hb5
  replace hb := Mr.hid hb
  unfold codeN
  conv => arg 2; whnf
  go_wp2
  rename (∀ (a : Act) (w : World), Code.wp _ (Code.seq _ _) _ a w → _) => hK1
  replace hK1 := Mr.hid hK1
  go_loopg [14] nt (fun k z wy => ∃ (j : Nat) (v : Value), z = .int .i64 (j : Int) ∧ j + k = nt ∧ Below W0.heap.size W0 wy ∧ Fr W wy (fun k => k = b) ∧ wy.heap[b]? = some (.cells #[.int .i64 (nt : Int), .int .i64 (nr : Int), .int .i64 c2, .int .i64 c3, .int .i64 c4, .int .i64 (ns : Int), .int .i64 c6, vw, vcd, vlb, ven, v, nilS, nilS, nilS, u0, u0, u0, u0, u0, u0, u0, u0, .int .i64 0, nilS, nilS, nilS] 60 (0, 0)) ∧ Has wy (fun k => W.heap.size ≤ k) 66 658 v j ((List.replicate j rt0).flatMap Rt.cells))
  case atStart => exact ⟨0, nilS, rfl, by omega, hB.out, Fr.refl _ _, hb.out, Has.nil _ _ _ _⟩
  case round =>
    obtain ⟨j, v, rfl, hjk, hBy, hFy, hby, hth⟩ := hrel
    clear hB
    obtain ⟨y0, y1, y5, l5, lb⟩ := c5.out wr hFy
    obtain ⟨x11, f11⟩ := cb.out wr v hby
    obtain ⟨a, cap, hv, hle⟩ := hth.form
    subst hv
    by_cases hj : j < nt
    · have d0 : decide ((j : Int) < (nt : Int)) = true := decide_eq_true (by omega)
      have law := hth.alloc (.cells tcA 66)
      have news := newsAt wr _ tcA 66 wr.heap.size rfl rfl
      have hst : wr.heap.size ≥ W.heap.size := hFy.size
      have FN := fun (w1 : World) (g cap' : Nat) (hown : Has w1 (fun k => W.heap.size ≤ k) 66 658 (.slice (some ⟨g, 0, none⟩) (j + 1) cap') (j + 1) ((List.replicate j rt0).flatMap Rt.cells ++ tcA.toList)) (hgrow : (wr.alloc (.cells tcA 66)).grownBy w1 (Value.slice a j cap).ownBlock) => grow_row (fi := 11) hby (by decide) hth hBy hFy h0 (fun _ h => h) hWW hown hgrow
      replace FN := Mr.hid FN
      replace hBy := Mr.hid hBy
      replace hFy := Mr.hid hFy
      replace hby := Mr.hid hby
      replace hth := Mr.hid hth
      replace law := Mr.hid law
      replace news := Mr.hid news
      go_wp2_with (first
        | (refine wpList_build_thr rfl rfl ?_)
        | (refine wpList_slice_thr rfl (.tmp 72) rfl rfl ?_)
        | (at_builtin; refine wpList_append_has _ rfl (.tmp 71) (.tmp 73) 52 rfl (fun k => W.heap.size ≤ k) 66 i0 _ 658 5360 Try.underlying52 hi hz0 hz1 hz2 zl658 (.slice a j cap) j ((List.replicate j rt0).flatMap Rt.cells) rfl law.out ⟨wr.heap.size, 0, none⟩ 1 1 tcA.toList rfl (by rw [tl658]) news.out one.out (by omega) (by unfold maxLen; omega) (by omega) (by simp; omega) ?_; intro g cap' w1 hown hgrow hat; obtain ⟨kb, F9⟩ := FN.out w1 g cap' hown hgrow; obtain ⟨k1, k2⟩ := cb.out w1 _ kb; clear FN hown hgrow hat kb; replace F9 := Mr.hid F9))
      go_roundg (gk - 1)
      case measure => omega
      case rel =>
        obtain ⟨r1, r2, r3, r4, _⟩ := F9.out
        exact ⟨j + 1, _, by simp, by omega, r1, r2, r3, by rw [← thr_snoc]; exact r4⟩
    · have d0 : decide ((j : Int) < (nt : Int)) = false := decide_eq_false (by omega)
      obtain rfl : j = nt := by omega
      have hst : W.heap.size ≤ wr.heap.size := hFy.size
      replace hBy := Mr.hid hBy
      replace hFy := Mr.hid hFy
      replace hby := Mr.hid hby
      replace hth := Mr.hid hth
      go_wp2
      refine hK1.out _ _ ?_
      refine new_slots hnr hns (c5'.out wr hFy.out) hby.out h0 hBy.out (fun w' vst vho vli g1 g2 g3 g4 g5 g6 => ?_)
      have nv1 : (Value.slice a j cap).ownBlock ≠ some b := not_row hby.out hth.out (by decide)
      exact hQ.out w' _ vst vho vli g1 (hFy.out.trans (g2.mono (fun _ hk => .inl hk))) g3 (hth.out.kept (fun k hk => g2.block k (hth.out.lt k hk).2 (fun e => nv1 (by rw [hk, e]))) (fun k hk => (hth.out.lt k hk).1)) (g4.mono (fun k hk => by omega)) (g5.mono (fun k hk => by omega)) (g6.mono (fun k hk => by omega))
end Go.Proofs.Ytkimmfdicohoiaa.Rf
