import Derived.Test.YtmejblmeaipahaaDoorJ18
import Derived.Laws.MakeOwn
/-
  TSO: slices that are made.
-/
namespace Go.Proofs.YtmejblmeaipahaaDoor.Ts
open Go.RowKit Mr
set_option linter.unusedVariables false
set_option linter.unusedSimpArgs false
set_option maxRecDepth 100000
theorem info_4 : ∃ i, Tryd.prog.info? 67 = some i ∧ i.zero = some (.agg #[.int .i64 0, .int .i64 0, .int .i64 0, .int .i64 0]) ∧ i.size = 4 ∧ i.bytes = 32 := info_of (by kernel_rfl)
theorem info_p : ∃ i, Tryd.prog.info? 70 = some i ∧ i.zero = some (.agg #[.int .i64 0, .int .i64 0]) ∧ i.size = 2 ∧ i.bytes = 16 := info_of (by kernel_rfl)
theorem info_ps : ∃ i, Tryd.prog.info? 68 = some i ∧ i.zero = some (.slice none 0 0) ∧ i.size = 1 ∧ i.bytes = 24 := info_of (by kernel_rfl)
def mkI (n : Nat) : Array Value := madeCells #[.int .i64 0] n
def mkR (n : Nat) : Array Value := madeCells #[.int .i64 0, .int .i64 0, .int .i64 0, .int .i64 0] (n * 4)
def mkP (n : Nat) : Array Value := madeCells #[.int .i64 0, .int .i64 0] (n * 2)
def mkB (n : Nat) : Array Value := madeCells #[.slice none 0 0] n
theorem made_get (z : Array Value) (n j : Nat) (u : Value) (hu : ∀ k, k < z.size → z[k]? = some u) (hz : 0 < z.size) (hj : j < n) : (madeCells z n)[j]? = some u := by
  have h1 := hu (j % z.size) (Nat.mod_lt _ hz)
  simp only [madeCells, Array.getElem?_map]
  rw [Array.getElem?_range]
  simp [hj]
  rw [Array.getElem!_eq_getD, Array.getD_eq_getD_getElem?, h1]
  rfl
theorem mkI_get (n j : Nat) (hj : j < n) : (mkI n)[j]? = some (.int .i64 0) := made_get _ _ _ _ (fun k hk => by match k, hk with | 0, _ => rfl) (by decide) hj
theorem mkB_get (n j : Nat) (hj : j < n) : (mkB n)[j]? = some (.slice none 0 0) := made_get _ _ _ _ (fun k hk => by match k, hk with | 0, _ => rfl) (by decide) hj
theorem mkR_get (n j : Nat) (hj : j < n * 4) : (mkR n)[j]? = some (.int .i64 0) := made_get _ _ _ _ (fun k hk => by
  match k, hk with
  | 0, _ => rfl
  | 1, _ => rfl
  | 2, _ => rfl
  | 3, _ => rfl) (by decide) hj
theorem mkP_get (n j : Nat) (hj : j < n * 2) : (mkP n)[j]? = some (.int .i64 0) := made_get _ _ _ _ (fun k hk => by
  match k, hk with
  | 0, _ => rfl
  | 1, _ => rfl) (by decide) hj
theorem mkI_size (n : Nat) : (mkI n).size = n := size_madeCells _ _
theorem mkB_size (n : Nat) : (mkB n).size = n := size_madeCells _ _
theorem mkR_size (n : Nat) : (mkR n).size = n * 4 := size_madeCells _ _
theorem mkP_size (n : Nat) : (mkP n).size = n * 2 := size_madeCells _ _
theorem make_i (W : World) (n : Nat) (hn : n ≤ 100000) : (Instr.makeSlice 22 (.int .i64 (n : Int)) (.int .i64 (n : Int))).run Tryd.prog W = .ok (.slice (some ⟨W.heap.size, 0, none⟩) n n) (W.alloc (.cells (mkI n) 3)) := by
  obtain ⟨i0, hi, hz0, hz1, hz2⟩ := info_i
  have h := run_make (P := Tryd.prog) W 22 3 i0 _ Tryd.underlying22 hi hz0 .i64 .i64 n n (by omega) (Int.le_refl _) (by rw [hz2]; omega) (by omega)
  rw [hz1, Nat.mul_one] at h
  simpa [Value.cells, mkI, mkR, mkB, mkP] using h
theorem make_r (W : World) (n : Nat) (hn : n ≤ 100000) : (Instr.makeSlice 29 (.int .i64 (n : Int)) (.int .i64 (n : Int))).run Tryd.prog W = .ok (.slice (some ⟨W.heap.size, 0, none⟩) n n) (W.alloc (.cells (mkR n) 67)) := by
  obtain ⟨i0, hi, hz0, hz1, hz2⟩ := info_4
  have h := run_make (P := Tryd.prog) W 29 67 i0 _ Tryd.underlying29 hi hz0 .i64 .i64 n n (by omega) (Int.le_refl _) (by rw [hz2]; omega) (by omega)
  rw [hz1] at h
  simpa [Value.cells, mkI, mkR, mkB, mkP] using h
theorem make_b (W : World) (n : Nat) (hn : n ≤ 100000) : (Instr.makeSlice 30 (.int .i64 (n : Int)) (.int .i64 (n : Int))).run Tryd.prog W = .ok (.slice (some ⟨W.heap.size, 0, none⟩) n n) (W.alloc (.cells (mkB n) 68)) := by
  obtain ⟨i0, hi, hz0, hz1, hz2⟩ := info_ps
  have h := run_make (P := Tryd.prog) W 30 68 i0 _ Tryd.underlying30 hi hz0 .i64 .i64 n n (by omega) (Int.le_refl _) (by rw [hz2]; omega) (by omega)
  rw [hz1, Nat.mul_one] at h
  simpa [Value.cells, mkI, mkR, mkB, mkP] using h
theorem make_p (W : World) (n : Nat) (hn : n ≤ 100000) : (Instr.makeSlice 68 (.int .i64 (n : Int)) (.int .i64 (n : Int))).run Tryd.prog W = .ok (.slice (some ⟨W.heap.size, 0, none⟩) n n) (W.alloc (.cells (mkP n) 70)) := by
  obtain ⟨i0, hi, hz0, hz1, hz2⟩ := info_p
  have h := run_make (P := Tryd.prog) W 68 70 i0 _ Tryd.underlying68 hi hz0 .i64 .i64 n n (by omega) (Int.le_refl _) (by rw [hz2]; omega) (by omega)
  rw [hz1] at h
  simpa [Value.cells, mkI, mkR, mkB, mkP] using h
end Go.Proofs.YtmejblmeaipahaaDoor.Ts
/-
  TSO: the program's left.
-/
namespace Go.Proofs.YtmejblmeaipahaaDoor.Ts
open Go.RowKit Mr
set_option linter.unusedVariables false
set_option linter.unusedSimpArgs false
set_option maxRecDepth 100000
theorem dr_heap {X : World} {k : Nat} {y : Option Obj} (h : X.heap[k]? = y) : X.drew.heap[k]? = y := h
/-- What left has made. -/
structure LfM (w1 w5 : World) (nw nt gd g1 g2 : Nat) : Prop where
  d : w5.heap[gd]? = some (.cells #[.slice (some ⟨g1, 0, none⟩) nw nw, .slice (some ⟨g2, 0, none⟩) nt nt] 92 (0, 0))
  h1 : w5.heap[g1]? = some (.cells (mkI nw) 3 (0, 0))
  h2 : w5.heap[g2]? = some (.cells (mkR nt) 67 (0, 0))
  le : w1.heap.size ≤ gd ∧ w1.heap.size ≤ g1 ∧ w1.heap.size ≤ g2
  ne : gd ≠ g1 ∧ gd ≠ g2 ∧ g1 ≠ g2
  B : Below w1.heap.size w1 w5
/-- The registers as they are copied. -/
def rgR (cs : Array Value) (nt i : Nat) : Array Value := ((List.range (nt * 4)).map fun j => if j < i * 4 then (cs[6 + j]?).getD (.int .i64 0) else .int .i64 0).toArray
theorem rgR_size (cs : Array Value) (nt i : Nat) : (rgR cs nt i).size = nt * 4 := by simp [rgR]
theorem rgR_get (cs : Array Value) (nt i j : Nat) (h : j < nt * 4) : (rgR cs nt i)[j]? = some (if j < i * 4 then (cs[6 + j]?).getD (.int .i64 0) else .int .i64 0) := by
  simp [rgR, h]
theorem rgR_zero (cs : Array Value) (nt : Nat) : mkR nt = rgR cs nt 0 := by
  apply Array.ext_getElem?
  intro j
  by_cases h : j < nt * 4
  · rw [mkR_get _ _ h, rgR_get _ _ _ _ h]; simp
  · rw [Array.getElem?_eq_none (by rw [mkR_size]; omega), Array.getElem?_eq_none (by rw [rgR_size]; omega)]
theorem rgR_next (cs : Array Value) (nt i : Nat) (hc : cs.size = 118) (h4 : nt ≤ 4) (hi : i < nt) : ((rgR cs nt i).toList.take (i * 4) ++ (cs.toList.drop (6 + i * 4)).take 4 ++ (rgR cs nt i).toList.drop (i * 4 + 4)).toArray = rgR cs nt (i + 1) := by
  have e1 : min (i * 4) (rgR cs nt i).toList.length = i * 4 := by rw [Array.length_toList, rgR_size]; omega
  have e2 : (List.take 4 (List.drop (6 + i * 4) cs.toList)).length = 4 := by simp; omega
  apply Array.ext_getElem?
  intro j
  rw [List.getElem?_toArray]
  by_cases h : j < nt * 4
  · rw [rgR_get _ _ _ _ h]
    by_cases h1 : j < i * 4
    · rw [List.append_assoc, List.getElem?_append_left (by rw [List.length_take, e1]; exact h1), List.getElem?_take, if_pos h1, Array.getElem?_toList, rgR_get _ _ _ _ h, if_pos h1, if_pos (by omega)]
    · by_cases h2 : j < (i + 1) * 4
      · rw [if_pos h2, List.append_assoc, List.getElem?_append_right (by rw [List.length_take, e1]; omega), List.getElem?_append_left (by rw [e2, List.length_take, e1]; omega), List.getElem?_take, List.length_take, e1, if_pos (by omega), List.getElem?_drop, show 6 + i * 4 + (j - i * 4) = 6 + j by omega, Array.getElem?_toList, Array.getElem?_eq_getElem (by omega)]
        rfl
      · rw [if_neg h2, List.getElem?_append_right (by rw [List.length_append, e2, List.length_take, e1]; omega), List.length_append, e2, List.length_take, e1, List.getElem?_drop, show i * 4 + 4 + (j - (i * 4 + 4)) = j by omega, Array.getElem?_toList, rgR_get _ _ _ _ h, if_neg h1]
  · rw [Array.getElem?_eq_none (by rw [rgR_size]; omega), List.getElem?_eq_none]
    rw [List.length_append, List.length_append, List.length_take, e1, e2, List.length_drop, Array.length_toList, rgR_size]; omega
theorem wsC {cs : Array Value} {s : Sv} (hE : Enc cs s) (nw : Nat) (h6 : nw ≤ 6) (hl : s.ws.length = nw) : ((mkI nw).toList.take 0 ++ (cs.toList.drop 0).take nw ++ (mkI nw).toList.drop (0 + nw)).toArray = (intsV s.ws).toArray := by
  have hc := hE.1
  apply Array.ext_getElem?
  intro j
  rw [List.getElem?_toArray, List.getElem?_toArray]
  rw [List.take_zero, List.nil_append, List.drop_zero, List.drop_of_length_le (by rw [Array.length_toList, mkI_size]; omega), List.append_nil, List.getElem?_take]
  by_cases h : j < nw
  · have hx : s.ws[j]? = some s.ws[j] := List.getElem?_eq_getElem (by omega)
    rw [if_pos h, Array.getElem?_toList, hE.word hx (by omega)]
    simp [intsV, List.getElem?_map, hx]
  · rw [if_neg h]; symm; exact List.getElem?_eq_none (by simp [intsV]; omega)
set_option maxHeartbeats 16000000 in
theorem left_any (s : Sv) (b : Nat) (cs : Array Value) (aw at' : Option Addr) (nw cw nt ct : Nat) (w : World) (hA : Ar w b cs) (hE : Enc cs s) (h6 : nw ≤ 6) (h4 : nt ≤ 4) (h1 : 1 ≤ nw) (hlw : s.ws.length = nw) (hlr : s.rg.length = nt) : Calls Tryd.prog 39 #[.pointer (some ⟨b, 0, none⟩), .agg #[.slice aw nw cw, .slice at' nt ct]] w fun e w' => ∃ g1 g2, e = .returned (.agg #[.slice (some ⟨g1, 0, none⟩) nw nw, .slice (some ⟨g2, 0, none⟩) nt nt]) ∧ w'.heap[g1]? = some (.cells (intsV s.ws).toArray 3 (0, 0)) ∧ w'.heap[g2]? = some (.cells (rgR cs nt nt) 67 (0, 0)) ∧ w.heap.size ≤ g1 ∧ w.heap.size ≤ g2 ∧ g1 ≠ g2 ∧ Below w.heap.size w w' := by
  have B0 : Below w.heap.size w ((w.alloc (.cells #[.slice aw nw cw, .slice at' nt ct] 25)).alloc (.cells #[.slice none 0 0, .slice none 0 0] 92)) := ((Below.refl _ _).alloc (Nat.le_refl _) _).alloc (by simp) _
  have hb0 : ((w.alloc (.cells #[.slice aw nw cw, .slice at' nt ct] 25)).alloc (.cells #[.slice none 0 0, .slice none 0 0] 92)).heap[w.heap.size]? = some (.cells #[.slice aw nw cw, .slice at' nt ct] 25 (0, 0)) := (Lib.alloc_old _ _ _ (by simp)).trans (new_at _ _ _ rfl)
  have hb1 : ((w.alloc (.cells #[.slice aw nw cw, .slice at' nt ct] 25)).alloc (.cells #[.slice none 0 0, .slice none 0 0] 92)).heap[w.heap.size + 1]? = some (.cells #[.slice none 0 0, .slice none 0 0] 92 (0, 0)) := new_at _ _ _ (by simp)
  have c0 := cell_blk hb0 0
  have c1 := cell_blk hb0 1
  have lx := (Array.getElem?_eq_some_iff.1 hb0).1
  have lx' := (Array.getElem?_eq_some_iff.1 hb1).1
  have lb := (Array.getElem?_eq_some_iff.1 hA.1).1
  have hmi := fun W => make_i W nw (by omega)
  have hmr := fun W => make_r W nt (by omega)
  have hsz := hA.2
  have hws := Mr.hid (wsC hE nw h6 hlw)
  have hcp : Hid (∀ (W : World) (ty : TypeId) (g : Nat), W.heap[b]? = w.heap[b]? → W.heap[g]? = some (.cells (mkI nw) 3 (0, 0)) → (Builtin.copy_ #[22, 22] ty #[.slice (some ⟨g, 0, none⟩) nw nw, .slice (some ⟨b, 0, none⟩) 6 118]).run Tryd.prog W = .ok (goInt ((nw : Nat) : Int)) (W.setRow g (intsV s.ws).toArray)) := fun W ty g hW hg => by
    obtain ⟨ii, hii, hz, hs1, hby⟩ := info_i
    have hAW : W.heap[b]? = some (.cells cs 62 (0, 0)) := hW.trans hA.1
    have hlen : (List.take nw (List.drop 0 cs.toList)).length = nw := by simp; omega
    have h := run_copy_row (P := Tryd.prog) W 22 22 ty 3 g 0 nw nw ⟨b, 0, none⟩ 6 118 (mkI nw) 3 ((cs.toList.drop 0).take nw) Tryd.underlying22 (by rw [hii]; simp [hs1]) hg (by rw [hlen]; show _ = min 6 nw; omega) (fun j v hv => by
      rw [add1, cell_blk hAW]
      rw [List.getElem?_take] at hv
      split at hv
      · rw [List.getElem?_drop] at hv; simpa using hv
      · cases hv) (by rw [hlen, mkI_size]; omega) (fun v hv => by
      have hv' := List.mem_of_mem_drop (List.mem_of_mem_take hv)
      obtain ⟨j, hj⟩ := List.getElem?_of_mem hv'
      have hj' : cs[j]? = some v := by simpa using hj
      have hj2 : j < 118 := by have := (Array.getElem?_eq_some_iff.1 hj').1; omega
      rw [hE.2 j hj2] at hj'
      cases hj'; rfl)
    rw [hlen, hws.out] at h
    exact h
  have hcr : Hid (∀ (W : World) (ty : TypeId) (g i : Nat), i < nt → W.heap[b]? = w.heap[b]? → W.heap[g]? = some (.cells (rgR cs nt i) 67 (0, 0)) → (Builtin.copy_ #[22, 22] ty #[.slice (some ⟨g, i * 4, none⟩) 4 4, .slice (some ⟨b, 6 + i * 4, none⟩) 4 (118 - (6 + i * 4))]).run Tryd.prog W = .ok (goInt ((4 : Nat) : Int)) (W.setRow g (rgR cs nt (i + 1)))) := fun W ty g i hi hW hg => by
    obtain ⟨ii, hii, hz, hs1, hby⟩ := info_i
    have hAW : W.heap[b]? = some (.cells cs 62 (0, 0)) := hW.trans hA.1
    have hlen : (List.take 4 (List.drop (6 + i * 4) cs.toList)).length = 4 := by simp; omega
    have h := run_copy_row (P := Tryd.prog) W 22 22 ty 3 g (i * 4) 4 4 ⟨b, 6 + i * 4, none⟩ 4 (118 - (6 + i * 4)) (rgR cs nt i) 67 ((cs.toList.drop (6 + i * 4)).take 4) Tryd.underlying22 (by rw [hii]; simp [hs1]) hg (by rw [hlen]; rfl) (fun j v hv => by
      rw [add1, cell_blk hAW]
      rw [List.getElem?_take] at hv
      split at hv
      · rw [List.getElem?_drop] at hv; simpa using hv
      · cases hv) (by rw [hlen, rgR_size]; omega) (fun v hv => by
      have hv' := List.mem_of_mem_drop (List.mem_of_mem_take hv)
      obtain ⟨j, hj⟩ := List.getElem?_of_mem hv'
      have hj' : cs[j]? = some v := by simpa using hj
      have hj2 : j < 118 := by have := (Array.getElem?_eq_some_iff.1 hj').1; omega
      rw [hE.2 j hj2] at hj'
      cases hj'; rfl)
    rw [hlen, rgR_next cs nt i hsz h4 hi] at h
    exact h
  have WD : Hid (∀ W : World, W.heap[b]? = w.heap[b]? → Calls Tryd.prog 35 #[.pointer (some ⟨b, 0, none⟩)] W fun e w' => e = .returned (.slice (some ⟨b, 0, none⟩) 6 118) ∧ w' = W) := fun W hW => words_any b cs W ⟨hW.trans hA.1, hsz⟩
  have RG : Hid (∀ (W : World) (i : Nat), i < nt → W.heap[b]? = w.heap[b]? → Calls Tryd.prog 45 #[.pointer (some ⟨b, 0, none⟩), .int .i64 (i : Int)] W fun e w' => e = .returned (.slice (some ⟨b, 6 + i * 4, none⟩) 4 (118 - (6 + i * 4))) ∧ w' = W) := fun W i hi hW => regs_any b i cs W ⟨hW.trans hA.1, hsz⟩ (by omega)
  have hz0 := Mr.hid (rgR_zero cs nt)
  replace B0 := Mr.hid B0
  replace hlr := Mr.hid hlr
  replace hlw := Mr.hid hlw
  clear hA hE hws
  go_enter Tryd.func39, Tryd.ntmps39
  go_upto_region 1 with fail
  generalize ((w.alloc (.cells #[.slice aw nw cw, .slice at' nt ct] 25)).alloc (.cells #[.slice none 0 0, .slice none 0 0] 92)) = w1 at *
  have lx1 : w.heap.size < w1.heap.size + 1 := by omega
  have lx2 : w.heap.size < w1.heap.size + 1 + 1 := by omega
  have nx2 : ¬ w.heap.size = w1.heap.size + 1 + 1 := by omega
  rename_i Q' K aK
  have KEY : Hid (∀ (gd g1 g2 : Nat) (w5 : World), LfM w1 w5 nw nt gd g1 g2 → Exit.then K Q' Exit.normal ⟨#[.pointer (some ⟨b, 0, none⟩), .agg #[.slice aw nw cw, .slice at' nt ct], undef, .pointer (some ⟨w.heap.size, 0, none⟩), .pointer (some ⟨w.heap.size + 1, 0, none⟩), .pointer (some ⟨gd, 0, none⟩), undef, .pointer (some ⟨w.heap.size, 0, none⟩), .slice aw nw cw, .int .i64 (nw : Int), .slice (some ⟨g1, 0, none⟩) nw nw, .pointer (some ⟨w.heap.size, 1, none⟩), .slice at' nt ct, .int .i64 (nt : Int), .slice (some ⟨g2, 0, none⟩) nt nt, .agg #[.slice (some ⟨g1, 0, none⟩) nw nw, .slice (some ⟨g2, 0, none⟩) nt nt], undef, undef, undef, undef, undef, undef, undef, undef, undef, undef, undef, undef, undef, undef, undef, undef, undef, undef, undef, undef, undef, undef], []⟩ w5) := by
    intro gd g1 g2 w5 hM
    obtain ⟨md, m1, m2, ⟨le1, le2, le3⟩, ⟨ne1, ne2, ne3⟩, MB⟩ := hM
    have d0 := cell_blk md 0
    have d1 := cell_blk md 1
    have ld := (Array.getElem?_eq_some_iff.1 md).1
    go_upto_region 2 with fail
    refine wp_region_held_drew (S := (fun W => W.cell? ⟨gd, 0, none⟩ = some (.slice (some ⟨g1, 0, none⟩) nw nw))) (by kernel_rfl) d0 (fun hHeld => ?_)
    try simp only [Act.put, List.setIfInBounds_toArray, List.set_cons_zero, List.set_cons_succ]
    refine wpAnyH_take (i := 0) (oi := (⟨_, _, _, _, _, _⟩ : Oper)) (v := ?_) rfl (by kernel_rfl) (by kernel_rfl) (by kernel_rfl) (fun _ _ _ h => h) (Or.inl ⟨by rfl, ?_⟩) (by assumption) ?_
    rotate_left
    · intro w9 hSw
      (try dsimp only at hSw)
      go_simp
      all_goals (with_reducible rfl)
    try simp only [Act.put, List.setIfInBounds_toArray, List.set_cons_zero, List.set_cons_succ]
    refine wpAnyH_take (i := 1) (oi := (⟨_, _, _, _, _, _⟩ : Oper)) (v := ?_) rfl (by kernel_rfl) (by kernel_rfl) (by kernel_rfl) (fun _ _ _ h => h) (Or.inl ⟨by rfl, ?_⟩) (by assumption) ?_
    rotate_left
    · intro w9 hSw
      (try dsimp only at hSw)
      go_simp
      all_goals (with_reducible rfl)
    try simp only [Act.put, List.setIfInBounds_toArray, List.set_cons_zero, List.set_cons_succ]
    refine wpAnyH_take (i := 2) (oi := (⟨_, _, _, _, _, _⟩ : Oper)) (v := ?_) rfl (by kernel_rfl) (by kernel_rfl) (by kernel_rfl) (fun _ _ _ h => h) (Or.inl ⟨by rfl, ?_⟩) (by assumption) ?_
    rotate_left
    · intro w9 hSw
      (try dsimp only at hSw)
      go_simp
      all_goals (with_reducible rfl)
    try simp only [Act.put, List.setIfInBounds_toArray, List.set_cons_zero, List.set_cons_succ]
    refine wpAnyH_ready (rs := [3]) (by kernel_rfl) (by simp) ?_
    refine AllReadyH.cons (o := (⟨_, _, _, _, _, _⟩ : Oper)) rfl (fun K hK => ?_) (AllReadyH.nil)
    go_simp
    go_at_call 35
    refine (WD.out w5.drew ((MB.block b (by have := B0.out.size; omega)).trans (B0.out.block b lb))).mono ?_
    rintro e w9 ⟨rfl, hw9⟩
    obtain rfl := hw9.symm
    try (go_wp2_with fail)
    refine hK.out _ _ d0 (fun hHeld9 => ?_)
    clear hK K hHeld
    have hHeld := hHeld9
    clear hHeld9
    try simp only [Act.put, List.setIfInBounds_toArray, List.set_cons_zero, List.set_cons_succ]
    refine wpAnyH_ready (rs := [4]) (by kernel_rfl) (by simp) ?_
    refine AllReadyH.cons (o := (⟨_, _, _, _, _, _⟩ : Oper)) rfl (fun K hK => ?_) (AllReadyH.nil)
    refine wp_copyT _ _ 22 22 rfl _ _ rfl rfl _ _ (hcp.out w5.drew _ g1 ((MB.block b (by have := B0.out.size; omega)).trans (B0.out.block b lb)) m1) ?_
    have e0 : (w5.drew.setRow g1 (intsV s.ws).toArray).cell? ⟨gd, 0, none⟩ = some (.slice (some ⟨g1, 0, none⟩) nw nw) := (World.cell?_of_block (a := ⟨gd, 0, none⟩) (setRow_other w5.drew g1 gd _ ne1)).trans d0
    refine hK.out _ _ e0 (fun hHeld9 => ?_)
    clear hK K hHeld
    have hHeld := hHeld9
    clear hHeld9
    try simp only [Act.put, List.setIfInBounds_toArray, List.set_cons_zero, List.set_cons_succ]
    refine wpAnyH_done (by kernel_rfl) ?_ _
    have a0 : (w5.drew.setRow g1 (intsV s.ws).toArray).heap[gd]? = _ := (setRow_other w5.drew g1 gd _ ne1).trans md
    have a1 : (w5.drew.setRow g1 (intsV s.ws).toArray).heap[g1]? = _ := setRow_heap w5.drew g1 _ (intsV s.ws).toArray 3 _ m1
    have a2 : (w5.drew.setRow g1 (intsV s.ws).toArray).heap[g2]? = _ := (setRow_other w5.drew g1 g2 _ (Ne.symm ne3)).trans m2
    rw [hz0.out] at a2
    have aB : Below w1.heap.size w1 (w5.drew.setRow g1 (intsV s.ws).toArray) := ⟨MB.os, MB.tape, MB.output, by have := MB.size; simpa using this, fun k hk => (setRow_other w5.drew g1 k _ (by omega)).trans (MB.block k hk)⟩
    clear md m1 m2 d0 d1 hHeld MB e0 ld hcp
    generalize w5.drew.setRow g1 (intsV s.ws).toArray = w6 at *
    have d1 := cell_blk a0 1
    have ld := (Array.getElem?_eq_some_iff.1 a0).1
    go_upto_region 4 with fail
    clear d1 ld
    go_loopg [24] nt (fun gk s24 wr => ∃ i : Nat, s24 = .int .i64 (i : Int) ∧ i + gk = nt ∧ wr.heap[gd]? = some (.cells #[.slice (some ⟨g1, 0, none⟩) nw nw, .slice (some ⟨g2, 0, none⟩) nt nt] 92 (0, 0)) ∧ wr.heap[g1]? = some (.cells (intsV s.ws).toArray 3 (0, 0)) ∧ wr.heap[g2]? = some (.cells (rgR cs nt i) 67 (0, 0)) ∧ Below w1.heap.size w1 wr)
    case atStart => exact ⟨0, rfl, by omega, a0, a1, a2, aB⟩
    case round =>
      obtain ⟨i, rfl, hi, r0, r1, r2, rB⟩ := hrel
      clear a0 a1 a2 aB
      have d0 := cell_blk r0 0
      have d1 := cell_blk r0 1
      have ld := (Array.getElem?_eq_some_iff.1 r0).1
      have hbb := (rB.block b (by have := B0.out.size; omega)).trans (B0.out.block b lb)
      by_cases hlt : i < nt
      · have dl : decide ((i : Int) < (nt : Int)) = true := decide_eq_true (by omega)
        have lI : (i : Int) < (nt : Int) := by omega
        have hwi : IntKind.i64.wrap ((i : Int) + 1) = (i : Int) + 1 := i64x _ (by omega) (by omega)
        have lg := (Array.getElem?_eq_some_iff.1 r2).1
        replace hi := Mr.hid hi
        go_upto_region 6 with fail
        refine wp_region_held_drew (S := (fun W => W.cell? ⟨gd, 1, none⟩ = some (.slice (some ⟨g2, 0, none⟩) nt nt))) (by kernel_rfl) d1 (fun hHeld => ?_)
        try simp only [Act.put, List.setIfInBounds_toArray, List.set_cons_zero, List.set_cons_succ]
        refine wpAnyH_take (i := 0) (oi := (⟨_, _, _, _, _, _⟩ : Oper)) (v := ?_) rfl (by kernel_rfl) (by kernel_rfl) (by kernel_rfl) (fun _ _ _ h => h) (Or.inl ⟨by rfl, ?_⟩) (by assumption) ?_
        rotate_left
        · intro w9 hSw
          (try dsimp only at hSw)
          go_simp
          all_goals (with_reducible rfl)
        try simp only [Act.put, List.setIfInBounds_toArray, List.set_cons_zero, List.set_cons_succ]
        refine wpAnyH_take (i := 1) (oi := (⟨_, _, _, _, _, _⟩ : Oper)) (v := ?_) rfl (by kernel_rfl) (by kernel_rfl) (by kernel_rfl) (fun _ _ _ h => h) (Or.inl ⟨by rfl, ?_⟩) (by assumption) ?_
        rotate_left
        · intro w9 hSw
          (try dsimp only at hSw)
          go_simp
          all_goals (with_reducible rfl)
        try simp only [Act.put, List.setIfInBounds_toArray, List.set_cons_zero, List.set_cons_succ]
        refine wpAnyH_take (i := 2) (oi := (⟨_, _, _, _, _, _⟩ : Oper)) (v := ?_) rfl (by kernel_rfl) (by kernel_rfl) (by kernel_rfl) (fun _ _ _ h => h) (Or.inl ⟨by rfl, ?_⟩) (by assumption) ?_
        rotate_left
        · intro w9 hSw
          (try dsimp only at hSw)
          go_simp
          all_goals (with_reducible rfl)
        try simp only [Act.put, List.setIfInBounds_toArray, List.set_cons_zero, List.set_cons_succ]
        refine wpAnyH_take (i := 3) (oi := (⟨_, _, _, _, _, _⟩ : Oper)) (v := ?_) rfl (by kernel_rfl) (by kernel_rfl) (by kernel_rfl) (fun _ _ _ h => h) (Or.inl ⟨by rfl, ?_⟩) (by assumption) ?_
        rotate_left
        · intro w9 hSw
          (try dsimp only at hSw)
          go_simp
          all_goals (with_reducible rfl)
        try simp only [Act.put, List.setIfInBounds_toArray, List.set_cons_zero, List.set_cons_succ]
        refine wpAnyH_take (i := 4) (oi := (⟨_, _, _, _, _, _⟩ : Oper)) (v := ?_) rfl (by kernel_rfl) (by kernel_rfl) (by kernel_rfl) (fun _ _ _ h => h) (Or.inl ⟨by rfl, ?_⟩) (by assumption) ?_
        rotate_left
        · intro w9 hSw
          (try dsimp only at hSw)
          go_simp
          all_goals (with_reducible rfl)
        try simp only [Act.put, List.setIfInBounds_toArray, List.set_cons_zero, List.set_cons_succ]
        refine wpAnyH_take (i := 5) (oi := (⟨_, _, _, _, _, _⟩ : Oper)) (v := ?_) rfl (by kernel_rfl) (by kernel_rfl) (by kernel_rfl) (fun _ _ _ h => h) (Or.inl ⟨by rfl, ?_⟩) (by assumption) ?_
        rotate_left
        · intro w9 hSw
          (try dsimp only at hSw)
          go_simp
          all_goals (with_reducible rfl)
        try simp only [Act.put, List.setIfInBounds_toArray, List.set_cons_zero, List.set_cons_succ]
        refine wpAnyH_take (i := 6) (oi := (⟨_, _, _, _, _, _⟩ : Oper)) (v := ?_) rfl (by kernel_rfl) (by kernel_rfl) (by kernel_rfl) (fun _ _ _ h => h) (Or.inl ⟨by rfl, ?_⟩) (by assumption) ?_
        rotate_left
        · intro w9 hSw
          (try dsimp only at hSw)
          go_simp
          all_goals (with_reducible rfl)
        try simp only [Act.put, List.setIfInBounds_toArray, List.set_cons_zero, List.set_cons_succ]
        refine wpAnyH_ready (rs := [7]) (by kernel_rfl) (by simp) ?_
        refine AllReadyH.cons (o := (⟨_, _, _, _, _, _⟩ : Oper)) rfl (fun K hK => ?_) (AllReadyH.nil)
        go_simp
        go_at_call 45
        refine (RG.out wr.drew i hlt hbb).mono ?_
        rintro e w9 ⟨rfl, hw9⟩
        obtain rfl := hw9.symm
        try (go_wp2_with fail)
        refine hK.out _ _ d1 (fun hHeld9 => ?_)
        clear hK K hHeld
        have hHeld := hHeld9
        clear hHeld9
        try simp only [Act.put, List.setIfInBounds_toArray, List.set_cons_zero, List.set_cons_succ]
        refine wpAnyH_ready (rs := [8]) (by kernel_rfl) (by simp) ?_
        refine AllReadyH.cons (o := (⟨_, _, _, _, _, _⟩ : Oper)) rfl (fun K hK => ?_) (AllReadyH.nil)
        refine wp_copyT _ _ 22 22 rfl _ _ rfl rfl _ _ (hcr.out wr.drew _ g2 i hlt hbb r2) ?_
        have e1 : (wr.drew.setRow g2 (rgR cs nt (i + 1))).cell? ⟨gd, 1, none⟩ = some (.slice (some ⟨g2, 0, none⟩) nt nt) := (World.cell?_of_block (a := ⟨gd, 1, none⟩) (setRow_other wr.drew g2 gd _ ne2)).trans d1
        refine hK.out _ _ e1 (fun hHeld9 => ?_)
        clear hK K hHeld
        have hHeld := hHeld9
        clear hHeld9
        try simp only [Act.put, List.setIfInBounds_toArray, List.set_cons_zero, List.set_cons_succ]
        refine wpAnyH_done (by kernel_rfl) ?_ _
        have q0 : Hid ((wr.drew.setRow g2 (rgR cs nt (i + 1))).heap[gd]? = some (.cells #[.slice (some ⟨g1, 0, none⟩) nw nw, .slice (some ⟨g2, 0, none⟩) nt nt] 92 (0, 0))) := (setRow_other wr.drew g2 gd _ ne2).trans r0
        have q1 : Hid ((wr.drew.setRow g2 (rgR cs nt (i + 1))).heap[g1]? = some (.cells (intsV s.ws).toArray 3 (0, 0))) := (setRow_other wr.drew g2 g1 _ ne3).trans r1
        have q2 : Hid ((wr.drew.setRow g2 (rgR cs nt (i + 1))).heap[g2]? = some (.cells (rgR cs nt (i + 1)) 67 (0, 0))) := setRow_heap wr.drew g2 _ _ 67 _ r2
        have qB : Hid (Below w1.heap.size w1 (wr.drew.setRow g2 (rgR cs nt (i + 1)))) := ⟨rB.os, rB.tape, rB.output, by have := rB.size; simpa using this, fun k hk => (setRow_other wr.drew g2 k _ (by omega)).trans (rB.block k hk)⟩
        clear r0 r1 r2 rB d0 d1 e1 hHeld hbb ld lg hlt
        generalize wr.drew.setRow g2 (rgR cs nt (i + 1)) = w8 at *
        go_wp2
        go_roundg (gk - 1)
        case measure => have := hi.out; omega
        case rel => exact ⟨i + 1, by simp, by have := hi.out; omega, q0.out, q1.out, q2.out, qB.out⟩
      · obtain rfl : i = nt := by omega
        have dl : decide ((i : Int) < (i : Int)) = false := decide_eq_false (by omega)
        have dl2 : ¬ (i : Int) < (i : Int) := by omega
        have hR := (rB.block _ lx').trans hb1
        have y0 := cell_blk hR 0
        have y1 := cell_blk hR 1
        have lR := (Array.getElem?_eq_some_iff.1 hR).1
        have fR : ∀ k, wr.frozen? ⟨w.heap.size + 1, k, none⟩ = false := fun k => by unfold World.frozen?; rw [hR]; rfl
        have gdn : ¬ gd = w.heap.size + 1 := by omega
        have gdn2 : ¬ w.heap.size + 1 = gd := by omega
        have hfin : Hid ((((wr.setCell ⟨w.heap.size + 1, 0, none⟩ (.slice (some ⟨g1, 0, none⟩) nw nw)).setCell ⟨w.heap.size + 1, 1, none⟩ (.slice (some ⟨g2, 0, none⟩) i i)).heap[g1]? = some (.cells (intsV s.ws).toArray 3 (0, 0))) ∧ (((wr.setCell ⟨w.heap.size + 1, 0, none⟩ (.slice (some ⟨g1, 0, none⟩) nw nw)).setCell ⟨w.heap.size + 1, 1, none⟩ (.slice (some ⟨g2, 0, none⟩) i i)).heap[g2]? = some (.cells (rgR cs i i) 67 (0, 0))) ∧ w.heap.size ≤ g1 ∧ w.heap.size ≤ g2 ∧ g1 ≠ g2 ∧ Below w.heap.size w ((wr.setCell ⟨w.heap.size + 1, 0, none⟩ (.slice (some ⟨g1, 0, none⟩) nw nw)).setCell ⟨w.heap.size + 1, 1, none⟩ (.slice (some ⟨g2, 0, none⟩) i i))) :=
          ⟨((Below.heap_setCell _ _ _ g1 (by show g1 ≠ w.heap.size + 1; omega)).trans (Below.heap_setCell _ _ _ g1 (by show g1 ≠ w.heap.size + 1; omega))).trans r1, ((Below.heap_setCell _ _ _ g2 (by show g2 ≠ w.heap.size + 1; omega)).trans (Below.heap_setCell _ _ _ g2 (by show g2 ≠ w.heap.size + 1; omega))).trans r2, by omega, by omega, ne3, ((B0.out.trans (rB.mono B0.out.size)).setCell (p := ⟨w.heap.size + 1, 0, none⟩) (by show w.heap.size ≤ w.heap.size + 1; omega) _).setCell (p := ⟨w.heap.size + 1, 1, none⟩) (by show w.heap.size ≤ w.heap.size + 1; omega) _⟩
        clear hi hlt r0 r1 r2 rB hR hbb
        go_wp2
        refine bodyPost_ret (v := .agg #[.slice (some ⟨g1, 0, none⟩) nw nw, .slice (some ⟨g2, 0, none⟩) i i]) (by simp [results, Tryd.results39, go_sem, *]) rfl ⟨g1, g2, rfl, hfin.out⟩
  go_region_held3 (fun W => W.cell? ⟨w.heap.size, 0, none⟩ = some (.slice aw nw cw) ∧ W.cell? ⟨w.heap.size, 1, none⟩ = some (.slice at' nt ct)) (simp [*, go_sem]) (fail)
  all_goals
    refine KEY.out _ _ _ _ ⟨?_, ?_, ?_, ?_, ?_, ?_⟩
    · refine dr_heap ?_; first | exact new_at _ _ _ (by simp) | exact (Lib.alloc_old _ _ _ (by simp)).trans (new_at _ _ _ (by simp)) | exact (Lib.alloc_old _ _ _ (by simp; omega)).trans ((Lib.alloc_old _ _ _ (by simp)).trans (new_at _ _ _ rfl))
    · refine dr_heap ?_; first | exact new_at _ _ _ (by simp) | exact (Lib.alloc_old _ _ _ (by simp)).trans (new_at _ _ _ (by simp)) | exact (Lib.alloc_old _ _ _ (by simp; omega)).trans ((Lib.alloc_old _ _ _ (by simp)).trans (new_at _ _ _ rfl))
    · refine dr_heap ?_; first | exact new_at _ _ _ (by simp) | exact (Lib.alloc_old _ _ _ (by simp)).trans (new_at _ _ _ (by simp)) | exact (Lib.alloc_old _ _ _ (by simp; omega)).trans ((Lib.alloc_old _ _ _ (by simp)).trans (new_at _ _ _ rfl))
    · refine ⟨?_, ?_, ?_⟩ <;> omega
    · refine ⟨?_, ?_, ?_⟩ <;> omega
    · exact ((((Below.refl _ _).alloc (Nat.le_refl _) _).alloc (by simp) _).alloc (by simp; omega) _).drew
end Go.Proofs.YtmejblmeaipahaaDoor.Ts
