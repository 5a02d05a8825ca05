import Derived.Test.YtkimmfdicohoiaaGreatJ31
import Derived.Test.YtkimmfdicohoiaaGreatJ35
import Derived.RangeFuncNested
import Derived.Test.YtkimmfdicohoiaaGreatJ01
/-
  arena.New (nothing used) and Kit by their contracts.
-/
namespace Go.Proofs.YtkimmfdicohoiaaGreat.Ar
open Go.RowKit Go.Shelf Mr Me Ma Wc Wm
theorem info_ints : (Tryz.prog.info? 69).map (fun i => (i.zero, i.size, i.bytes)) = some (some (.slice none 0 0), 1, 24) := by kernel_rfl
/-- A new arena. -/
def Ao.new (n t : Nat) : Ao := ⟨List.replicate n (0, -1), List.replicate t []⟩
theorem new_bad (c : Cf) (hc : c.ok = false) (u : Int) (w : World) : Calls Tryz.prog 11 #[c.val, .int .i64 u] w fun e w' => e = .returned (.tuple #[.pointer none, .int .i64 1]) ∧ Below w.heap.size w w' := by
  have hc' : cfgB c.a0 c.a1 c.a2 c.a3 c.a4 c.a5 c.a6 = false := hc
  have C := fun w => check_any c.a0 c.a1 c.a2 c.a3 c.a4 c.a5 c.a6 w
  rw [hc', chk_f] at C
  clear hc hc'
  unfold Cf.val
  go_enter Tryz.func11, Tryz.ntmps11
  go_wp2_with (go_at_call 40; refine (C _).mono ?_; clear C; rintro e w1 ⟨rfl, hB⟩)
  go_ret2
  exact ⟨rfl, ((Below.refl _ _).alloc (Nat.le_refl _) _).trans (hB.mono (by simp))⟩
set_option maxRecDepth 100000 in
set_option maxHeartbeats 1000000 in
theorem new_ok (c : Cf) (hc : c.ok = true) (n nt : Nat) (h5 : c.a5 = n) (h0 : c.a0 = nt) (w : World) : Calls Tryz.prog 11 #[c.val, .int .i64 0] w fun e w' => ∃ ba gs cs vca vs, e = .returned (.tuple #[.pointer (some ⟨ba, 0, none⟩), .int .i64 0]) ∧ Ar w' (fun k => w.heap.size ≤ k ∧ k < w'.heap.size) ba gs cs c vca vs (Ao.new n nt) ∧ Below w.heap.size w w' := by
  have hc' : cfgB c.a0 c.a1 c.a2 c.a3 c.a4 c.a5 c.a6 = true := hc
  obtain ⟨_, _, _, _, q5, q6, _⟩ := ok_of hc'
  have q0 : 1 ≤ nt ∧ nt ≤ 16 := by
    have : inB c.a0 1 16 = true := by simp [cfgB] at hc'; simp [hc'.1.1.1.1.1.1]
    have := inB_iff this
    omega
  have C := fun w => check_any c.a0 c.a1 c.a2 c.a3 c.a4 c.a5 c.a6 w
  rw [hc', chk_t] at C
  have RP := fun (w1 : World) => repeat_any (w1.alloc (.cells #[.int .i64 0, .int .i64 (-1)] 100)) w1.heap.size n (by omega) (by omega) (heap_alloc_new w1 _)
  simp only [World.size_alloc] at RP
  obtain ⟨i0, hi, hz0, hz1, hz2⟩ := info_parts info_ints
  have hmk : ∀ u : World, (Instr.makeSlice 60 (.int .i64 (nt : Int)) (.int .i64 (nt : Int))).run Tryz.prog u = .ok (.slice (some ⟨u.heap.size, 0, none⟩) nt nt) (u.alloc (.cells (madeCells #[.slice none 0 0] nt) 69)) := fun u => by
    have h := run_make (P := Tryz.prog) u 60 69 i0 (.slice none 0 0) Tryz.underlying60 hi hz0 .i64 .i64 (nt : Int) (nt : Int) (by omega) (Int.le_refl _) (by rw [hz2]; omega) (by omega)
    have e : ((nt : Int)).toNat = nt := by omega
    rw [e] at h
    rw [hz1] at h
    simpa [Value.cells] using h
  have box : ∀ w1 : World, Below (w.heap.size + 1) (w.alloc (.cells #[.int .i64 c.a0, .int .i64 c.a1, .int .i64 c.a2, .int .i64 c.a3, .int .i64 c.a4, .int .i64 c.a5, .int .i64 c.a6] 23)) w1 → w1.cell? ⟨w.heap.size, 0, none⟩ = some (.int .i64 c.a0) ∧ w1.cell? ⟨w.heap.size, 1, none⟩ = some (.int .i64 c.a1) ∧ w1.cell? ⟨w.heap.size, 2, none⟩ = some (.int .i64 c.a2) ∧ w1.cell? ⟨w.heap.size, 3, none⟩ = some (.int .i64 c.a3) ∧ w1.cell? ⟨w.heap.size, 4, none⟩ = some (.int .i64 c.a4) ∧ w1.cell? ⟨w.heap.size, 5, none⟩ = some (.int .i64 c.a5) ∧ w1.cell? ⟨w.heap.size, 6, none⟩ = some (.int .i64 c.a6) ∧ w.heap.size < w1.heap.size := fun w1 hB => by
    have hs := hB.size
    have hb : w1.heap[w.heap.size]? = some (.cells #[.int .i64 c.a0, .int .i64 c.a1, .int .i64 c.a2, .int .i64 c.a3, .int .i64 c.a4, .int .i64 c.a5, .int .i64 c.a6] 23 (0, 0)) := (hB.block w.heap.size (by omega)).trans (heap_alloc_new w _)
    simp at hs
    simp [World.cell?, hb]
    omega
  clear hc'
  unfold Cf.val
  obtain ⟨a0, a1, a2, a3, a4, a5, a6⟩ := c
  simp only at h5 h0 q5 q6
  subst h5 h0
  simp only at C box ⊢
  have d5 : decide ((n : Int) < 0) = false := by simp
  replace C := Mr.hid C
  replace RP := Mr.hid RP
  replace box := Mr.hid box
  go_enter Tryz.func11, Tryz.ntmps11
  go_wp2_with (first | (go_at_call 40; refine (C.out _).mono ?_; clear C; rintro e w1 ⟨rfl, hB⟩; simp only [World.size_alloc] at hB; obtain ⟨y0, y1, y2, y3, y4, y5, y6, y7⟩ := box.out w1 hB; have z5 : ∀ o, (w1.alloc o).cell? ⟨w.heap.size, 5, none⟩ = some (.int .i64 (n : Int)) := (fun o => by rw [World.cell?_alloc_past _ _ _ y7]; exact y5); have RP1 := RP.out w1; clear RP; replace RP1 := Mr.hid RP1; replace hB := Mr.hid hB) | (go_at_call 41; refine RP1.out.mono ?_; clear RP1; rintro e w2 ⟨rfl, hT, hB2⟩; clear y0 y1 y2 y3 y4 y5 y6 z5; replace hT := Mr.hid hT; replace hB2 := Mr.hid hB2))
  have hB3 : Below (w.heap.size + 1) (w.alloc (.cells #[.int .i64 (nt : Int), .int .i64 a1, .int .i64 a2, .int .i64 a3, .int .i64 a4, .int .i64 (n : Int), .int .i64 a6] 23)) w2 := (hB.out.alloc (by omega) _).trans (hB2.out.mono (by omega))
  obtain ⟨y0, y1, y2, y3, y4, y5, y6, y8⟩ := box.out w2 hB3
  have hmk2 := hmk w2.drew
  clear box hmk
  replace hB3 := Mr.hid hB3
  refine wp_loop_rounds 1 ?_
  rw [rounds_succ]
  go_wp2
  go_region_held3 (fun w' => w'.cell? ⟨w.heap.size, 0, none⟩ = some (.int .i64 (nt : Int)) ∧ w'.cell? ⟨w.heap.size, 1, none⟩ = some (.int .i64 a1) ∧ w'.cell? ⟨w.heap.size, 2, none⟩ = some (.int .i64 a2) ∧ w'.cell? ⟨w.heap.size, 3, none⟩ = some (.int .i64 a3) ∧ w'.cell? ⟨w.heap.size, 4, none⟩ = some (.int .i64 a4) ∧ w'.cell? ⟨w.heap.size, 5, none⟩ = some (.int .i64 (n : Int)) ∧ w'.cell? ⟨w.heap.size, 6, none⟩ = some (.int .i64 a6)) (go_keep) (fail)
  go_wp2
  go_ret2
  obtain ⟨W5, hW5⟩ : ∃ W5, ((w2.alloc (.cells (madeCells #[.slice none 0 0] nt) 69)).alloc (.cells #[.int .i64 (nt : Int), .int .i64 a1, .int .i64 a2, .int .i64 a3, .int .i64 a4, .int .i64 (n : Int), .int .i64 a6, .slice (some ⟨w1.heap.size + 1, 0, none⟩) n n, .slice (some ⟨w2.heap.size, 0, none⟩) nt nt] 62)).drew = W5 := ⟨_, rfl⟩
  rw [hW5]
  have s2 := hB2.out.size
  have s5 : W5.heap.size = w2.heap.size + 1 + 1 := by rw [← hW5]; simp
  have k5 : ∀ k, k < w2.heap.size → W5.heap[k]? = w2.heap[k]? := fun k hk => by rw [← hW5]; exact (Below.heap_alloc _ _ _ (by simp; omega)).trans (Below.heap_alloc _ _ _ hk)
  have kc : W5.heap[w2.heap.size]? = some (.cells (madeCells #[.slice none 0 0] nt) 69 (0, 0)) := by rw [← hW5]; exact (Below.heap_alloc _ _ _ (by simp)).trans (heap_alloc_new w2 _)
  have ka : W5.heap[w2.heap.size + 1]? = some (.cells #[.int .i64 (nt : Int), .int .i64 a1, .int .i64 a2, .int .i64 a3, .int .i64 a4, .int .i64 (n : Int), .int .i64 a6, .slice (some ⟨w1.heap.size + 1, 0, none⟩) n n, .slice (some ⟨w2.heap.size, 0, none⟩) nt nt] 62 (0, 0)) := by
    rw [← hW5]
    have := heap_alloc_new (w2.alloc (.cells (madeCells #[.slice none 0 0] nt) 69)) (.cells #[.int .i64 (nt : Int), .int .i64 a1, .int .i64 a2, .int .i64 a3, .int .i64 a4, .int .i64 (n : Int), .int .i64 a6, .slice (some ⟨w1.heap.size + 1, 0, none⟩) n n, .slice (some ⟨w2.heap.size, 0, none⟩) nt nt] 62)
    rw [World.size_alloc] at this
    exact this
  have B5 : Below w.heap.size w W5 := by
    have b1 : Below w.heap.size w w2 := ((Below.refl _ _).alloc (Nat.le_refl _) _).trans (hB3.out.mono (by omega))
    rw [← hW5]
    exact ((b1.alloc (by omega) _).alloc (by simp; omega) _).drew
  have hmc : (madeCells #[Value.slice none 0 0] nt).toList = List.replicate nt (.slice none 0 0) := by
    apply List.ext_getElem
    · simp [size_madeCells]
    · intro j h1 h2
      simp [madeCells, Nat.mod_one]
  refine ⟨w2.heap.size + 1, w1.heap.size + 1, n, .slice (some ⟨w2.heap.size, 0, none⟩) nt nt, List.replicate nt (.slice none 0 0), rfl, ⟨?_, ?_, ?_, ?_, ?_, ?_, hc, ?_⟩, B5⟩
  · simpa [Ao.new] using ka
  · have e1 : (Ao.new n nt).sl.length = n := by simp [Ao.new]
    rw [e1]
    have hT' := hT.out
    exact hT'.kept (fun k hk => k5 k (hT'.lt k hk).2) (fun k hk => by have := hT'.lt k hk; exact ⟨by omega, by omega⟩)
  · have e1 : (Ao.new n nt).ca.length = nt := by simp [Ao.new]
    rw [e1]
    refine ⟨by simp, .inr ⟨w2.heap.size, nt, _, rfl, ⟨by omega, by omega⟩, kc, Nat.le_refl _, by unfold maxLen; omega, by simp [size_madeCells], ?_⟩⟩
    rw [hmc]
    simp
  · intro i v l hv hl
    have e1 : v = .slice none 0 0 := (List.mem_replicate.1 (List.mem_of_getElem? hv)).2
    have e2 : l = [] := by
      have hl' : (List.replicate nt ([] : List Int))[i]? = some l := hl
      exact (List.mem_replicate.1 (List.mem_of_getElem? hl')).2
    subst e1 e2
    exact Has.nil _ _ _ _
  · intro i j v v' k hv _ e1
    have e2 : v = .slice none 0 0 := (List.mem_replicate.1 (List.mem_of_getElem? hv)).2
    subst e2
    simp [Value.ownBlock] at e1
  · exact ⟨by omega, by omega⟩
  · simp [Ao.new]
end Go.Proofs.YtkimmfdicohoiaaGreat.Ar
/-
  THE ARENA's Kit by its contract.
-/
namespace Go.Proofs.YtkimmfdicohoiaaGreat.Ar
open Go.RowKit Go.Shelf Mr Me Ma Wc Wm
def fK (g ca : Nat) : Value := .func (.func g) #[] #[.pointer (some ⟨ca, 0, none⟩)]
theorem run_makeMap (w : World) : (Instr.makeMap 48 none).run Tryz.prog w = .ok (.map (some w.heap.size)) (w.alloc (.map #[] 0)) := by rfl
theorem run_ins1 (w : World) (km : Nat) (v : Value) (h : w.heap[km]? = some (.map #[] 0)) : (Instr.mapUpdate 48 (.map (some km)) (.int .i64 10) v).run Tryz.prog w = .ok () (w.putObj km (.map #[⟨.int .i64 10, v, 0⟩] 1)) := by
  have hch : ∀ b, (Instr.checkKey b 10000 53 (.int .i64 10)).run Tryz.prog w = .ok () w := fun b => by cases b <;> kernel_rfl
  have hget : (getObj km).run Tryz.prog w = .ok (.map #[] 0) w := by simp [getObj, Sem.run, h]
  have hset : ∀ o, (setObj km o).run Tryz.prog w = .ok () (w.putObj km o) := fun o => by simp [setObj, Sem.run, h, World.putObj]
  simp [Instr.mapUpdate, run_underlying Tryz.underlying48, hget, hch, Instr.findKey, run_underlying Tryz.underlying53, Instr.findNow, hset]
theorem run_ins2 (w : World) (km : Nat) (v u : Value) (h : w.heap[km]? = some (.map #[⟨.int .i64 10, v, 0⟩] 1)) : (Instr.mapUpdate 48 (.map (some km)) (.int .i64 11) u).run Tryz.prog w = .ok () (w.putObj km (.map #[⟨.int .i64 10, v, 0⟩, ⟨.int .i64 11, u, 1⟩] 2)) := by
  have hch : ∀ b, (Instr.checkKey b 10000 53 (.int .i64 11)).run Tryz.prog w = .ok () w := fun b => by cases b <;> kernel_rfl
  have hget : (getObj km).run Tryz.prog w = .ok (.map #[⟨.int .i64 10, v, 0⟩] 1) w := by simp [getObj, Sem.run, h]
  have hset : ∀ o, (setObj km o).run Tryz.prog w = .ok () (w.putObj km o) := fun o => by simp [setObj, Sem.run, h, World.putObj]
  simp [Instr.mapUpdate, run_underlying Tryz.underlying48, hget, hch, Instr.findKey, run_underlying Tryz.underlying53, Instr.findNow, Instr.sameNow, hset]
theorem run_ins3 (w : World) (km : Nat) (v u x : Value) (h : w.heap[km]? = some (.map #[⟨.int .i64 10, v, 0⟩, ⟨.int .i64 11, u, 1⟩] 2)) : (Instr.mapUpdate 48 (.map (some km)) (.int .i64 12) x).run Tryz.prog w = .ok () (w.putObj km (.map #[⟨.int .i64 10, v, 0⟩, ⟨.int .i64 11, u, 1⟩, ⟨.int .i64 12, x, 2⟩] 3)) := by
  have hch : ∀ b, (Instr.checkKey b 10000 53 (.int .i64 12)).run Tryz.prog w = .ok () w := fun b => by cases b <;> kernel_rfl
  have hget : (getObj km).run Tryz.prog w = .ok (.map #[⟨.int .i64 10, v, 0⟩, ⟨.int .i64 11, u, 1⟩] 2) w := by simp [getObj, Sem.run, h]
  have hset : ∀ o, (setObj km o).run Tryz.prog w = .ok () (w.putObj km o) := fun o => by simp [setObj, Sem.run, h, World.putObj]
  simp [Instr.mapUpdate, run_underlying Tryz.underlying48, hget, hch, Instr.findKey, run_underlying Tryz.underlying53, Instr.findNow, Instr.sameNow, hset]
section
variable {T : Nat → Prop} {ba gs cs : Nat} {c : Cf} {vca : Value} {vs : List Value} {A : Ao}
set_option maxRecDepth 100000 in
set_option maxHeartbeats 1000000 in
theorem kit_any (w : World) (h : Ar w T ba gs cs c vca vs A) (hl : ∀ k, T k → k < w.heap.size) (hn : 0 < A.sl.length) : Calls Tryz.prog 15 #[.pointer (some ⟨ba, 0, none⟩)] w fun e w' => e = .returned (.map (some (w.heap.size + 1))) ∧ Ktr w' (fun k => w.heap.size ≤ k ∧ k < w'.heap.size) (w.heap.size + 1) w.heap.size ba ∧ Below w.heap.size w w' := by
  have hmf : ∀ (fn : Fn) (first cap : Array Value) (w : World), (Instr.makeFunc fn first cap).run Tryz.prog w = .ok (.func fn first cap) w := fun _ _ _ _ => rfl
  obtain ⟨W1, hW1⟩ : ∃ W1, w.alloc (.cells #[.pointer (some ⟨ba, 0, none⟩)] 39) = W1 := ⟨_, rfl⟩
  have s1 : W1.heap.size = w.heap.size + 1 := by rw [← hW1]; simp
  have b1 : W1.heap[w.heap.size]? = some (.cells #[.pointer (some ⟨ba, 0, none⟩)] 39 (0, 0)) := by rw [← hW1]; exact heap_alloc_new w _
  have B1 : Below w.heap.size w W1 := by rw [← hW1]; exact (Below.refl _ _).alloc (Nat.le_refl _) _
  have MD := made_arena (h.kept (w := W1) (fun k hk => B1.block k (hl k hk)) (fun _ h => h)) hn
  have c1 : W1.cell? ⟨w.heap.size, 0, none⟩ = some (.pointer (some ⟨ba, 0, none⟩)) := by simp [World.cell?, b1]
  obtain ⟨W2, hW2⟩ : ∃ W2, W1.alloc (.map #[] 0) = W2 := ⟨_, rfl⟩
  have s2 : W2.heap.size = w.heap.size + 1 + 1 := by rw [← hW2]; simp [s1]
  have g2 : W2.heap[w.heap.size + 1]? = some (.map #[] 0) := by rw [← hW2, ← s1]; exact heap_alloc_new W1 _
  have B2 : Below (w.heap.size + 1) W1 W2 := by rw [← hW2]; exact (Below.refl _ _).alloc (by omega) _
  have m0 := run_makeMap W1
  rw [hW2, s1] at m0
  have i1 := run_ins1 W2 (w.heap.size + 1) (fK 49 w.heap.size) g2
  have put : ∀ (V : World) (o : Obj), V.heap.size = w.heap.size + 1 + 1 → Below (w.heap.size + 1) W1 V → (V.putObj (w.heap.size + 1) o).heap.size = w.heap.size + 1 + 1 ∧ (V.putObj (w.heap.size + 1) o).heap[w.heap.size + 1]? = some o ∧ Below (w.heap.size + 1) W1 (V.putObj (w.heap.size + 1) o) := fun V o hs hB => by
    refine ⟨by simp [World.putObj, hs], World.putObj_heap_same (by omega), ⟨hB.os, hB.tape, hB.output, by simp [World.putObj, hs, s1], fun k hk => (World.putObj_heap_other (by omega)).trans (hB.block k hk)⟩⟩
  obtain ⟨s3, g3, B3⟩ := put W2 (.map #[⟨.int .i64 10, fK 49 w.heap.size, 0⟩] 1) s2 B2
  generalize W2.putObj (w.heap.size + 1) (.map #[⟨.int .i64 10, fK 49 w.heap.size, 0⟩] 1) = W3 at *
  have i2 := run_ins2 W3 (w.heap.size + 1) _ (fK 50 w.heap.size) g3
  obtain ⟨s4, g4, B4⟩ := put W3 (.map #[⟨.int .i64 10, fK 49 w.heap.size, 0⟩, ⟨.int .i64 11, fK 50 w.heap.size, 1⟩] 2) s3 B3
  generalize W3.putObj (w.heap.size + 1) (.map #[⟨.int .i64 10, fK 49 w.heap.size, 0⟩, ⟨.int .i64 11, fK 50 w.heap.size, 1⟩] 2) = W4 at *
  have i3 := run_ins3 W4 (w.heap.size + 1) _ _ (fK 52 w.heap.size) g4
  obtain ⟨s5, g5, B5⟩ := put W4 (.map #[⟨.int .i64 10, fK 49 w.heap.size, 0⟩, ⟨.int .i64 11, fK 50 w.heap.size, 1⟩, ⟨.int .i64 12, fK 52 w.heap.size, 2⟩] 3) s4 B4
  generalize W4.putObj (w.heap.size + 1) (.map #[⟨.int .i64 10, fK 49 w.heap.size, 0⟩, ⟨.int .i64 11, fK 50 w.heap.size, 1⟩, ⟨.int .i64 12, fK 52 w.heap.size, 2⟩] 3) = W5 at *
  have fin : Ktr W5 (fun k => w.heap.size ≤ k ∧ k < W5.heap.size) (w.heap.size + 1) w.heap.size ba ∧ Below w.heap.size w W5 := by
    have hb := B5.block w.heap.size (by omega)
    exact ⟨⟨g5, (World.cell?_of_block hb).trans c1, ⟨by omega, by omega⟩, ⟨by omega, by omega⟩⟩, B1.trans (B5.mono (by omega))⟩
  replace fin := Mr.hid fin
  simp only [fK] at i1 i2 i3
  clear put b1 B1 B2 B3 B4 B5 g2 g3 g4 g5 h
  go_enter Tryz.func15, Tryz.ntmps15
  go_wp2_with (go_at_call 48; refine MD.mono ?_; clear MD; rintro e w' ⟨rfl, hw⟩; obtain rfl := hw.symm)
  go_ret
  exact ⟨rfl, fin.out⟩
end
end Go.Proofs.YtkimmfdicohoiaaGreat.Ar
/-
  machine.New over an arena's kit.
-/
namespace Go.Proofs.YtkimmfdicohoiaaGreat.Ar
open Go.RowKit Go.Shelf Mr Me Ma Wc Wm
/-- A new machine with an arena. -/
def Pa.new (m K : Nat) (A : Ao) (nth : Nat) (ws : List Int) : Pa := ⟨m, K, A, List.replicate nth ⟨none, false, -1⟩, 0, [], [], ws, []⟩
theorem thsA_none (nth : Nat) (bc bt : Nat → Nat) : thsA (List.replicate nth ⟨none, false, -1⟩) bc bt = List.replicate nth idleT := by
  apply List.ext_getElem?
  intro j
  rw [thsA_get]
  simp only [List.getElem?_replicate]
  split <;> rfl
theorem new_none {nth i : Nat} {t : At} (h : (List.replicate nth (⟨none, false, -1⟩ : At))[i]? = some t) : t = ⟨none, false, -1⟩ := by
  rw [List.getElem?_replicate] at h
  split at h
  · exact (Option.some.inj h).symm
  · cases h
section
variable {T K : Nat → Prop} {ba gs cs km ca : Nat} {c : Cf} {vca : Value} {vsl : List Value} {A : Ao}
set_option maxRecDepth 100000 in
set_option maxHeartbeats 1000000 in
theorem newM_arena (w : World) (nth : Nat) (h1 : 1 ≤ nth) (h2 : nth ≤ 16) (a : Option Addr) (n cap : Nat) (ws : List Int) (hs : Src w a n cap ws) (hn : n ≤ 8192) (hA : Ar w T ba gs cs c vca vsl A) (hTl : ∀ k, T k → k < w.heap.size) (hK : Ktr w K km ca ba) (hKl : ∀ k, K k → k < w.heap.size) (hKT : ∀ k, K k → ¬ T k) (m Kc : Nat) (hm : c.m = m) (hk4 : c.a4 = Kc) (hk64 : Kc ≤ 64) (hI : Inv (Pa.new m Kc A nth ws) 0) :
    Calls Tryz.prog 13 #[.int .i64 (nth : Int), .slice a n cap, .map (some km)] w fun e w' => ∃ q U h, e = .returned (.tuple #[.pointer (some ⟨q.b, 0, none⟩), .int .i64 0]) ∧ RA w' U K ⟨q, km, ca, ba, gs, cs, c, vca⟩ h (Pa.new m Kc A nth ws) ∧ (∀ k, U k → T k ∨ w.heap.size ≤ k) ∧ Below w.heap.size w w' := by
  have N := new_any _ _ _ _ _ hs hn
  have d1 : decide ((nth : Int) < 1) = false := by simp; omega
  have d2 : decide (16 < (nth : Int)) = false := by simp; omega
  have RP := fun (w1 : World) => Ma.repeat_any (w1.alloc (.cells #[.nilIface, .bool false, .int .i64 (-1), .int .i64 0, .int .i64 0] 109)) w1.heap.size nth h1 h2 (heap_alloc_new w1 _)
  simp only [World.size_alloc] at RP
  replace hs := Mr.hid hs
  replace hK := Mr.hid hK
  replace hA := Mr.hid hA
  replace hI := Mr.hid hI
  go_enter Tryz.func13, Tryz.ntmps13
  go_wp2_with (first | (go_at_call 42; refine N.mono ?_; clear N; rintro e w1 ⟨bm, vw, rfl, hM, hB1⟩; have RP1 := RP w1; clear RP) | (go_at_call 43; refine RP1.mono ?_; clear RP1; rintro e w3 ⟨rfl, hT, hB3⟩))
  go_ret2
  have z1 := hB1.size
  have z3 := hB3.size
  obtain ⟨W5, hW5⟩ : ∃ W5, (w3.alloc (.cells #[.pointer (some ⟨bm, 0, none⟩), .slice none 0 0, .slice none 0 0] 112)).alloc (.cells #[.map (some km), .slice (some ⟨w1.heap.size + 1, 0, none⟩) nth nth, .int .i64 0, .pointer (some ⟨w3.heap.size, 0, none⟩)] 114) = W5 := ⟨_, rfl⟩
  have s5 : W5.heap.size = w3.heap.size + 1 + 1 := by rw [← hW5]; simp
  have k5 : ∀ k, k < w3.heap.size → W5.heap[k]? = w3.heap[k]? := fun k hk => by rw [← hW5]; exact (Below.heap_alloc _ _ _ (by simp; omega)).trans (Below.heap_alloc _ _ _ hk)
  have kb : W5.heap[w3.heap.size]? = some (.cells #[.pointer (some ⟨bm, 0, none⟩), .slice none 0 0, .slice none 0 0] 112 (0, 0)) := by rw [← hW5]; exact (Below.heap_alloc _ _ _ (by simp)).trans (heap_alloc_new w3 _)
  have km5 : W5.heap[w3.heap.size + 1]? = some (.cells #[.map (some km), .slice (some ⟨w1.heap.size + 1, 0, none⟩) nth nth, .int .i64 0, .pointer (some ⟨w3.heap.size, 0, none⟩)] 114 (0, 0)) := by
    rw [← hW5]
    have := heap_alloc_new (w3.alloc (.cells #[.pointer (some ⟨bm, 0, none⟩), .slice none 0 0, .slice none 0 0] 112)) (.cells #[.map (some km), .slice (some ⟨w1.heap.size + 1, 0, none⟩) nth nth, .int .i64 0, .pointer (some ⟨w3.heap.size, 0, none⟩)] 114)
    rw [World.size_alloc] at this
    exact this
  have B5 : Below w.heap.size w W5 := by
    rw [← hW5]
    simp only [World.size_alloc] at z3
    have b2 : Below w.heap.size w (w1.alloc (.cells #[.nilIface, .bool false, .int .i64 (-1), .int .i64 0, .int .i64 0] 109)) := hB1.alloc z1 _
    exact ((b2.trans (hB3.mono (by omega))).alloc (by omega) _).alloc (by simp; omega) _
  simp only [World.size_alloc] at z3
  have m5 : ∀ k, k < w1.heap.size → W5.heap[k]? = w1.heap[k]? := fun k hk => (k5 k (by omega)).trans ((hB3.block k (by omega)).trans (Below.heap_alloc _ _ _ hk))
  rw [hW5]
  have low : ∀ k, T k → k < w.heap.size := hTl
  have u1 : (T (w3.heap.size + 1) ∨ (w.heap.size ≤ w3.heap.size + 1 ∧ w3.heap.size + 1 < W5.heap.size)) ∧ ¬ (w.heap.size ≤ w3.heap.size + 1 ∧ w3.heap.size + 1 < w1.heap.size) := ⟨.inr (by omega), by omega⟩
  have u2 : (T w3.heap.size ∨ (w.heap.size ≤ w3.heap.size ∧ w3.heap.size < W5.heap.size)) ∧ ¬ (w.heap.size ≤ w3.heap.size ∧ w3.heap.size < w1.heap.size) := ⟨.inr (by omega), by omega⟩
  refine ⟨⟨w3.heap.size + 1, w3.heap.size, bm, 0, 0, w1.heap.size + 1, nth, nth, .map (some km), .slice none 0 0, .slice none 0 0, vw⟩, (fun k => T k ∨ (w.heap.size ≤ k ∧ k < W5.heap.size)), ⟨(fun k => w.heap.size ≤ k ∧ k < w1.heap.size), .slice none 0 0, .slice none 0 0, .slice none 0 0, .slice none 0 0, 0, [], T, vsl, fun _ => 0, fun _ => 0⟩, rfl, ⟨⟨?_, ?_⟩, fun k hk => by have := low k hk; have := B5.size; omega, hA.out.kept (fun k hk => B5.block k (low k hk)) (fun _ h => h), ?_, ?_, Nat.le_refl _, hK.out.kept (fun k hk => B5.block k (hKl k hk)), ?_, hI.out, hm, hk4, hk64, rfl⟩, fun k hk => hk.imp id (fun h => h.1), B5⟩
  · rintro k o ⟨hk, ho⟩
    have hkl := low k hk
    refine ⟨ho, .inl hk, fun h => by omega, ?_, ?_, ?_, ?_, ?_⟩
    · show k ≠ w3.heap.size + 1; omega
    · show k ≠ w3.heap.size; omega
    · show k ≠ w1.heap.size + 1; omega
    · simp [Fx.at, Value.ownBlock]
    · simp [Fx.at, Value.ownBlock]
  · refine ⟨km5, kb, (hM.narrow.kept (fun k _ hk => m5 k hk)), ?_, Has.nil _ _ _ _, Has.nil _ _ _ _, u1, u2, fun k hk => .inr ⟨hk.1, by have h2 : k < w1.heap.size := hk.2; omega⟩, fun k hk => ?_⟩
    · have e : thsA (Pa.new m Kc A nth ws).pts (fun _ => 0) (fun _ => 0) = List.replicate nth idleT := thsA_none nth _ _
      simp only [Wh.ss, e, List.length_replicate]
      refine hT.kept (fun k hk => k5 k (hT.lt k hk).2) (fun k hk => ?_)
      have h' := hT.lt k hk
      exact ⟨.inr ⟨by omega, by omega⟩, fun h => by omega⟩
    · rcases hk with hk | hk
      · have := low k hk; have := B5.size; omega
      · exact hk.2
  · intro i t hi
    have : t = ⟨none, false, -1⟩ := new_none hi
    rw [this]
    trivial
  · intro i j t u k hi hj ht
    have : t = ⟨none, false, -1⟩ := new_none hi
    rw [this] at ht
    exact ht.elim
  · intro k hk
    have := hKl k hk
    refine ⟨fun h => ?_, by have := B5.size; omega⟩
    rcases h with h | h
    · exact hKT k hk h
    · omega
end
end Go.Proofs.YtkimmfdicohoiaaGreat.Ar
