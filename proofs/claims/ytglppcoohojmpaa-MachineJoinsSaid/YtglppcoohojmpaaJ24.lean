import Derived.Test.YtglppcoohojmpaaJ17
import Derived.Laws.Tables
import Derived.Test.YtglppcoohojmpaaJ19
import Derived.Deep.LoopGhost
import Derived.Deep.Cut
/-
  THE DOCUMENT's MACHINE: a new thread's row, its 658 cells behind a name.
-/
namespace Go.Proofs.Ytglppcoohojmpaa.Rf
open Go.RowKit Mr Me Ma
def rt0 : Rt := ⟨false, 0, 0, fun _ => 0, nilS, nilS, -1⟩
def tcA : Array Value := rt0.cells.toArray
set_option maxRecDepth 100000 in
theorem built_thr : Try.prog.built 118 [(6, .int .i64 (-1))] = some tcA := by kernel_rfl
theorem tcA_size : tcA.size = 658 := rt_len rt0
/-- What is written cell by cell from k on. -/
theorem fold_set : ∀ (l : List Value) (k : Nat) (A : Array Value), A.size = k + l.length → (l.zipIdx k).foldl (fun (cs : Array Value) (x : Value × Nat) => cs.setIfInBounds (0 + x.2) x.1) A = (A.toList.take k ++ l).toArray := by
  intro l
  induction l with
  | nil =>
    intro k A h
    simp only [List.zipIdx_nil, List.foldl_nil, List.append_nil]
    have : A.toList.take k = A.toList := List.take_of_length_le (by simp at h; simp; omega)
    rw [this]
  | cons c l ih =>
    intro k A h
    simp only [List.length_cons] at h
    simp only [List.zipIdx_cons, List.foldl_cons, Nat.zero_add]
    have h2 := ih (k + 1) (A.setIfInBounds k c) (by simp; omega)
    simp only [Nat.zero_add] at h2
    rw [h2]
    congr 1
    rw [Array.toList_setIfInBounds, List.take_set, List.take_add_one]
    have hk : k < A.toList.length := by simp; omega
    rw [List.getElem?_eq_getElem hk]
    have hl : (A.toList.take k).length = k := by simp; omega
    simp only [Option.toList_some]
    rw [List.set_append_right _ _ (by omega), hl, Nat.sub_self]
    simp
section
variable {P : Program}
theorem run_buildSlice_one (w : World) (t e : TypeId) (i : TypeInfo) (z : Value) (cells : Array Value) (ht : P.underlying t = some (.slice e)) (hi : P.info? e = some i) (hz : i.zero = some z) (hs : cells.size = i.size) (h0 : 0 < i.size) (hm : i.size ≤ 16777216) :
    (Instr.buildSlice t 1 #[(0, .agg cells)]).run P w = .ok (.slice (some ⟨w.heap.size, 0, none⟩) 1 1) (w.alloc (.cells cells e)) := by
  have hfill : ∀ A : Array Value, A.size = i.size → Instr.fill (fun j => some (j * i.size, i.size)) A [(0, .agg cells)] = some cells := fun A hA => by
    unfold Instr.fill
    simp only [Value.cells, Nat.zero_mul]
    rw [if_neg (by simp [hs, hA])]
    unfold Instr.fill
    congr 1
    have := fold_set cells.toList 0 A (by simp [hA, hs])
    rw [← Array.foldl_toList]
    simp only [Array.toList_zipIdx]
    rw [this]
    simp
  have hA : ((Array.range (1 * i.size)).map (fun j => z.cells[j % z.cells.size]!)).size = i.size := by simp
  have h1 : ¬ 16777216 < i.size := by omega
  have h2 : ¬ i.size = 0 := by omega
  have hF := hfill _ hA
  simp only [Nat.one_mul] at hF
  simp [Instr.buildSlice, run_underlying ht, sizeOf, typeInfo, hi, zeroValue, hz, newRow, h1, h2, hF]
end
def zA : Array Value := (⟨false, 0, 0, fun _ => 0, nilS, nilS, 0⟩ : Rt).cells.toArray
set_option maxRecDepth 100000 in
theorem info_thr : (Try.prog.info? 118).map (fun i => (i.zero, i.size, i.bytes)) = some (some (.agg zA), 658, 5360) := by kernel_rfl
theorem zA_size : zA.size = 658 := rt_len _
theorem one_cells (t : Rt) (h1 : t.bk.oneCell' = true) (h2 : t.ch.oneCell' = true) : ∀ u ∈ t.cells, u.oneCell' = true := by
  intro u hu
  unfold Rt.cells at hu
  simp only [List.mem_append, List.mem_cons, List.not_mem_nil, or_false] at hu
  rcases hu with (rfl | rfl | rfl) | hu | (rfl | rfl | rfl | rfl | rfl) | hu
  · rfl
  · rfl
  · rfl
  · unfold regs at hu
    obtain ⟨j, _, rfl⟩ := List.mem_map.1 hu
    rfl
  · exact h1
  · exact h2
  · rfl
  · rfl
  · rfl
  · unfold tailC at hu
    rcases List.mem_append.1 hu with hu | hu
    · rw [List.eq_of_mem_replicate hu]; rfl
    · simp only [List.mem_cons, List.not_mem_nil, or_false] at hu
      rcases hu with rfl | rfl <;> rfl
section
variable {w : World} {ops : Array Oper} {rest : List Oper} {o : Oper} {a : Act} {Q : Exit → Act → World → Prop}
theorem wpList_build_thr (hgd : o.guard = none) (ho : o.op = .build 118 #[(6, .const (.int .i64 (-1)))]) (h : wpList Try.prog ops Q rest (a.put o.dst (.agg tcA)) w) : wpList Try.prog ops Q (o :: rest) a w := by
  have e : (#[((6 : Nat), (Operand.const (.int .i64 (-1))))].map fun (i, x) => (i, a.eval x)).toList = [(6, .int .i64 (-1))] := by simp [Act.eval]
  refine wpList_build hgd _ _ ho (by rw [e, built_thr]; rfl) ?_
  rw [e, built_thr]
  exact h
theorem wpList_slice_thr (hgd : o.guard = none) (x : Operand) (ho : o.op = .buildSlice 68 1 #[(0, x)]) (hx : a.eval x = .agg tcA) (h : wpList Try.prog ops Q rest (a.put o.dst (.slice (some ⟨w.heap.size, 0, none⟩) 1 1)) (w.alloc (.cells tcA 118))) : wpList Try.prog ops Q (o :: rest) a w := by
  obtain ⟨i0, hi, hz0, hz1, hz2⟩ := info_parts info_thr
  have hr := run_buildSlice_one (P := Try.prog) w 68 118 i0 (.agg zA) tcA Try.underlying68 hi hz0 (by rw [tcA_size, hz1]) (by rw [hz1]; decide) (by rw [hz1]; decide)
  refine wpList_plain hgd fun _ hK => ?_
  unfold Oper.wp execOp
  simp only [ho, List.map_toArray, List.map_cons, List.map_nil, hx, Sem.run_bind, hr, Result.andThen_ok]
  exact hK _ _ h
end
end Go.Proofs.Ytglppcoohojmpaa.Rf
/-
  THE DOCUMENT's MACHINE: New, from its threads on (a machine without slots and records).
-/
namespace Go.Proofs.Ytglppcoohojmpaa.Rf
open Go.RowKit Mr Me Ma
noncomputable def codeN : Code := tl 3 (Try.f13.body.getD .skip)
theorem thr_snoc (j : Nat) : (List.replicate j rt0).flatMap Rt.cells ++ tcA.toList = (List.replicate (j + 1) rt0).flatMap Rt.cells := by
  rw [List.replicate_succ', List.flatMap_append]
  simp [tcA]
set_option maxRecDepth 100000 in
set_option maxHeartbeats 4000000 in
theorem new_tail {W0 W : World} {nt b b5 : Nat} {vw vcd vlb ven : Value} (hnt : nt ≤ 100000) (hb5 : W.heap[b5]? = some (.cells #[.int .i64 (nt : Int), .int .i64 0, .int .i64 0, .int .i64 0, .int .i64 0, .int .i64 0, .int .i64 0] 43 (0, 0))) (hb : W.heap[b]? = some (.cells #[.int .i64 (nt : Int), .int .i64 0, .int .i64 0, .int .i64 0, .int .i64 0, .int .i64 0, .int .i64 0, vw, vcd, vlb, ven, nilS, nilS, nilS, nilS, u0, u0, u0, u0, u0, u0, u0, u0, .int .i64 0, nilS, nilS, nilS] 73 (0, 0))) (h0 : W0.heap.size ≤ b) (hB : Below W0.heap.size W0 W) {z0 z1 z2 z3 z4 z6 z7 z8 z9 z10 z12 z13 z14 z15 z16 z17 z18 z19 z20 z21 z22 z23 z24 z25 z26 z27 z28 z29 z30 z31 z32 z33 z34 z35 z36 z37 z38 z39 z40 z41 z42 z43 z44 z45 z46 z47 z48 z49 z50 z51 z52 z53 z54 z55 z56 z57 z58 z59 z60 z61 z62 z63 z64 z65 z66 z67 z68 z69 z70 z71 z72 z73 z74 z75 z76 z77 z78 z79 z80 z81 z82 z83 z84 z85 z86 z87 z88 z89 z90 z91 z92 z93 z94 z95 z96 z97 z98 z99 z100 z101 z102 z103 z104 z105 z106 z107 z108 z109 z110 z111 z112 z113 z114 z115 z116 z117 z118 z119 z120 : Value} {R : World → Prop}
    (hQ : ∀ (w' : World) (vt : Value), Below W0.heap.size W0 w' → Fr W w' (fun k => k = b) → w'.heap[b]? = some (.cells #[.int .i64 (nt : Int), .int .i64 0, .int .i64 0, .int .i64 0, .int .i64 0, .int .i64 0, .int .i64 0, vw, vcd, vlb, ven, vt, nilS, nilS, nilS, u0, u0, u0, u0, u0, u0, u0, u0, .int .i64 0, nilS, nilS, nilS] 73 (0, 0)) → Has w' (fun k => W.heap.size ≤ k) 118 658 vt nt ((List.replicate nt rt0).flatMap Rt.cells) → R w') :
    Code.wp Try.prog codeN (bodyPost Try.prog Try.f13 fun e w' => e = .returned (.pointer (some ⟨b, 0, none⟩)) ∧ R w') ⟨#[z0, z1, z2, z3, z4, .pointer (some ⟨b5, 0, none⟩), z6, z7, z8, z9, z10, .pointer (some ⟨b, 0, none⟩), z12, z13, z14, z15, z16, z17, z18, z19, z20, z21, z22, z23, z24, z25, z26, z27, z28, z29, z30, z31, z32, z33, z34, z35, z36, z37, z38, z39, z40, z41, z42, z43, z44, z45, z46, z47, z48, z49, z50, z51, z52, z53, z54, z55, z56, z57, z58, z59, z60, z61, z62, z63, z64, z65, z66, z67, z68, z69, z70, z71, z72, z73, z74, z75, z76, z77, z78, z79, z80, z81, z82, z83, z84, z85, z86, z87, z88, z89, z90, z91, z92, z93, z94, z95, z96, z97, z98, z99, z100, z101, z102, z103, z104, z105, z106, z107, z108, z109, z110, z111, z112, z113, z114, z115, z116, z117, z118, z119, z120], []⟩ W := by
  obtain ⟨i0, hi, hz0, hz1, hz2⟩ := info_parts info_thr
  have n5 : b5 ≠ b := fun e => by rw [e, hb] at hb5; simp at hb5
  have n5' := n5.symm
  have hbl := (Array.getElem?_eq_some_iff.1 hb).1
  have h5l := (Array.getElem?_eq_some_iff.1 hb5).1
  have c5 : ∀ w' : World, Fr W w' (fun k => k = b) → w'.cell? ⟨b5, 0, none⟩ = some (.int .i64 (nt : Int)) ∧ w'.cell? ⟨b5, 1, none⟩ = some (.int .i64 0) ∧ w'.cell? ⟨b5, 5, none⟩ = some (.int .i64 0) ∧ b5 < w'.heap.size ∧ b < w'.heap.size := fun w' hF => by
    have e := (hF.block b5 h5l n5).trans hb5
    have := hF.size
    simp [World.cell?, e]
    omega
  have cb : ∀ (w' : World) (vt : Value), w'.heap[b]? = some (.cells #[.int .i64 (nt : Int), .int .i64 0, .int .i64 0, .int .i64 0, .int .i64 0, .int .i64 0, .int .i64 0, vw, vcd, vlb, ven, vt, nilS, nilS, nilS, u0, u0, u0, u0, u0, u0, u0, u0, .int .i64 0, nilS, nilS, nilS] 73 (0, 0)) → w'.cell? ⟨b, 11, none⟩ = some vt ∧ w'.frozen? ⟨b, 11, none⟩ = false := fun w' vt e => by simp [World.cell?, World.frozen?, e]
  have sb : ∀ (w' : World) (vt v : Value), w'.heap[b]? = some (.cells #[.int .i64 (nt : Int), .int .i64 0, .int .i64 0, .int .i64 0, .int .i64 0, .int .i64 0, .int .i64 0, vw, vcd, vlb, ven, vt, nilS, nilS, nilS, u0, u0, u0, u0, u0, u0, u0, u0, .int .i64 0, nilS, nilS, nilS] 73 (0, 0)) → (w'.setCell ⟨b, 11, none⟩ v).heap[b]? = some (.cells #[.int .i64 (nt : Int), .int .i64 0, .int .i64 0, .int .i64 0, .int .i64 0, .int .i64 0, .int .i64 0, vw, vcd, vlb, ven, v, nilS, nilS, nilS, u0, u0, u0, u0, u0, u0, u0, u0, .int .i64 0, nilS, nilS, nilS] 73 (0, 0)) := fun w' vt v e => by rw [setBlk e]; rfl
  have one : ∀ u ∈ tcA.toList, u.oneCell' = true := fun u hu => one_cells rt0 rfl rfl u (by simpa [tcA] using hu)
  have tl658 : tcA.toList.length = 658 := by rw [Array.length_toList]; exact tcA_size
  have zl658 : (Value.agg zA).cells.size = 658 := zA_size
  replace c5 := Mr.hid c5
  replace cb := Mr.hid cb
  replace sb := Mr.hid sb
  replace hQ := Mr.hid hQ
  replace one := Mr.hid one
  replace hB := Mr.hid hB
  replace hb5 := Mr.hid hb5
  replace hb := Mr.hid hb
  unfold codeN
  conv => arg 2; whnf
  go_wp2
  go_loopg [14] nt (fun k z wy => ∃ (j : Nat) (vt : Value), z = .int .i64 (j : Int) ∧ j + k = nt ∧ Below W0.heap.size W0 wy ∧ Fr W wy (fun k => k = b) ∧ wy.heap[b]? = some (.cells #[.int .i64 (nt : Int), .int .i64 0, .int .i64 0, .int .i64 0, .int .i64 0, .int .i64 0, .int .i64 0, vw, vcd, vlb, ven, vt, nilS, nilS, nilS, u0, u0, u0, u0, u0, u0, u0, u0, .int .i64 0, nilS, nilS, nilS] 73 (0, 0)) ∧ Has wy (fun k => W.heap.size ≤ k) 118 658 vt j ((List.replicate j rt0).flatMap Rt.cells))
  case atStart => exact ⟨0, nilS, rfl, by omega, hB.out, Fr.refl _ _, hb.out, Has.nil _ _ _ _⟩
  case round =>
    obtain ⟨j, vt, rfl, hjk, hBy, hFy, hby, hth⟩ := hrel
    clear hB
    obtain ⟨y0, y1, y5, l5, lb⟩ := c5.out wr hFy
    obtain ⟨x11, f11⟩ := cb.out wr vt hby
    obtain ⟨a, cap, hv, hle⟩ := hth.form
    subst hv
    by_cases hj : j < nt
    · have d0 : decide ((j : Int) < (nt : Int)) = true := decide_eq_true (by omega)
      have law := hth.alloc (.cells tcA 118)
      have news := newsAt wr _ tcA 118 wr.heap.size rfl rfl
      have hst : wr.heap.size ≥ W.heap.size := hFy.size
      have FN := fun (w1 : World) (g cap' : Nat) (hown : Has w1 (fun k => W.heap.size ≤ k) 118 658 (.slice (some ⟨g, 0, none⟩) (j + 1) cap') (j + 1) ((List.replicate j rt0).flatMap Rt.cells ++ tcA.toList)) (hgrow : (wr.alloc (.cells tcA 118)).grownBy w1 (Value.slice a j cap).ownBlock) => (show (w1.cell? ⟨b, 11, none⟩ = some (.slice a j cap) ∧ w1.frozen? ⟨b, 11, none⟩ = false) ∧ Below W0.heap.size W0 (w1.setCell ⟨b, 11, none⟩ (.slice (some ⟨g, 0, none⟩) (j + 1) cap')) ∧ Fr W (w1.setCell ⟨b, 11, none⟩ (.slice (some ⟨g, 0, none⟩) (j + 1) cap')) (fun k => k = b) ∧ (w1.setCell ⟨b, 11, none⟩ (.slice (some ⟨g, 0, none⟩) (j + 1) cap')).heap[b]? = some (.cells #[.int .i64 (nt : Int), .int .i64 0, .int .i64 0, .int .i64 0, .int .i64 0, .int .i64 0, .int .i64 0, vw, vcd, vlb, ven, (.slice (some ⟨g, 0, none⟩) (j + 1) cap'), nilS, nilS, nilS, u0, u0, u0, u0, u0, u0, u0, u0, .int .i64 0, nilS, nilS, nilS] 73 (0, 0)) ∧ Has (w1.setCell ⟨b, 11, none⟩ (.slice (some ⟨g, 0, none⟩) (j + 1) cap')) (fun k => W.heap.size ≤ k) 118 658 (.slice (some ⟨g, 0, none⟩) (j + 1) cap') (j + 1) ((List.replicate (j + 1) rt0).flatMap Rt.cells) from by
        have nvb : (Value.slice a j cap).ownBlock ≠ some b := not_row hby hth (by decide)
        have kb : w1.heap[b]? = some (.cells #[.int .i64 (nt : Int), .int .i64 0, .int .i64 0, .int .i64 0, .int .i64 0, .int .i64 0, .int .i64 0, vw, vcd, vlb, ven, (.slice a j cap), nilS, nilS, nilS, u0, u0, u0, u0, u0, u0, u0, u0, .int .i64 0, nilS, nilS, nilS] 73 (0, 0)) := (hgrow.block b (by simp; omega) (fun e => nvb e.symm)).trans ((Below.heap_alloc _ _ _ lb).trans hby)
        have nvb' : (Value.slice (some ⟨g, 0, none⟩) (j + 1) cap').ownBlock ≠ some b := not_row kb hown (by decide)
        have hBa : Below W0.heap.size W0 (wr.alloc (.cells tcA 118)) := hBy.alloc hBy.size _
        have hBg : Below W0.heap.size W0 w1 := hBa.grown hgrow (by have := hBy.size; simp; omega) (fun k hk => by have := (hth.lt k hk).1; have := hbl; omega)
        have hFa : Fr W (wr.alloc (.cells tcA 118)) (fun k => k = b) := hFy.alloc _
        refine ⟨cb.out w1 _ kb, hBg.setCell (p := ⟨b, 11, none⟩) h0 _, (hFa.grown hgrow (fun k hk => .inr (hth.lt k hk).1)).setCell _ _ (.inl rfl), sb.out w1 _ _ kb, ?_⟩
        rw [← thr_snoc]
        exact hown.setCell _ _ nvb')
      replace FN := Mr.hid FN
      replace hBy := Mr.hid hBy
      replace hFy := Mr.hid hFy
      replace hby := Mr.hid hby
      replace hth := Mr.hid hth
      replace law := Mr.hid law
      replace news := Mr.hid news
      go_wp2_with (first
        | (refine wpList_build_thr rfl rfl ?_)
        | (refine wpList_slice_thr rfl (.tmp 72) rfl rfl ?_)
        | (at_builtin; refine wpList_append_has _ rfl (.tmp 71) (.tmp 73) 68 rfl (fun k => W.heap.size ≤ k) 118 i0 _ 658 5360 Try.underlying68 hi hz0 hz1 hz2 zl658 (.slice a j cap) j ((List.replicate j rt0).flatMap Rt.cells) rfl law.out ⟨wr.heap.size, 0, none⟩ 1 1 tcA.toList rfl (by rw [tl658]) news.out one.out (by omega) (by unfold maxLen; omega) (by omega) (by simp; omega) ?_; intro g cap' w1 hown hgrow hat; obtain ⟨⟨k1, k2⟩, F9⟩ := FN.out w1 g cap' hown hgrow; clear FN hown hgrow hat; replace F9 := Mr.hid F9))
      go_roundg (gk - 1)
      case measure => omega
      case rel => exact ⟨j + 1, _, by simp, by omega, F9.out⟩
    · have d0 : decide ((j : Int) < (nt : Int)) = false := decide_eq_false (by omega)
      obtain rfl : j = nt := by omega
      have F9 := Mr.hid (hQ.out wr _ hBy hFy hby hth)
      replace hBy := Mr.hid hBy
      replace hFy := Mr.hid hFy
      replace hby := Mr.hid hby
      replace hth := Mr.hid hth
      go_wp2
      obtain ⟨wq, hwq⟩ : ∃ wq : World, wq = wr := ⟨_, rfl⟩
      replace hwq := Mr.hid hwq
      go_loopg [15] 0 (fun k z wy => z = .int .i64 0 ∧ wy = wq)
      case atStart => exact ⟨rfl, hwq.out.symm⟩
      case round =>
        obtain ⟨rfl, rfl⟩ := hrel
        have e := hwq.out
        subst e
        go_wp2
        obtain ⟨wp, hwp⟩ : ∃ wp : World, wp = wr := ⟨_, rfl⟩
        replace hwp := Mr.hid hwp
        go_loopg [17] 0 (fun k z wy => z = .int .i64 0 ∧ wy = wp)
        case atStart => exact ⟨rfl, hwp.out.symm⟩
        case round =>
          obtain ⟨rfl, rfl⟩ := hrel
          have e := hwp.out
          subst e
          go_wp2
          go_ret
          exact ⟨rfl, F9.out⟩
end Go.Proofs.Ytglppcoohojmpaa.Rf
