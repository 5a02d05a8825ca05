import Derived.Test.YtglppcoohojmpaaRfKtR
/-
  Join of two kits, and of none.
-/
namespace Go.Proofs.Ytglppcoohojmpaa.Rf
open Go.RowKit Go.Shelf Mr Me Ma
set_option linter.unusedVariables false
theorem KtR.kg {W : World} {K : Nat → Prop} {km size s1 a1 s2 a2 : Nat} (h : KtR W K km size s1 a1 s2 a2) (hl : ∀ k, K k → k < W.heap.size) : KG W K km size := by
  refine ⟨hl, fun W' hk => ?_⟩
  have h' := h.kept hk
  refine ⟨fun th data ad had => kit_someR h' h'.c1 th 1 data ad had _ _ (own1_any ad) (enters_of Try.func34 (by kernel_rfl) rfl) rfl, fun th data ad had => kit_someR h' h'.c2 th 2 data ad had _ _ (own2_any ad) (enters_of Try.func35 (by kernel_rfl) rfl) rfl, fun th op arg data hno => ?_⟩
  by_cases h1 : op = 1
  · subst h1
    refine (kit_outR h' h'.c1 th 1 arg data (by omega) rfl).mono ?_
    rintro e w' ⟨rfl, rfl⟩
    exact ⟨rfl, ((Below.refl _ _).alloc (Nat.le_refl _) _).alloc (by simp) _⟩
  · by_cases h2 : op = 2
    · subst h2
      refine (kit_outR h' h'.c2 th 2 arg data (by omega) rfl).mono ?_
      rintro e w' ⟨rfl, rfl⟩
      exact ⟨rfl, ((Below.refl _ _).alloc (Nat.le_refl _) _).alloc (by simp) _⟩
    · refine (kit_noneR h' th op arg data h1 h2).mono ?_
      rintro e w' ⟨rfl, rfl⟩
      exact ⟨rfl, (Below.refl _ _).alloc (Nat.le_refl _) _⟩
def wf (s a : Nat) : Value := .func (.func 48) #[] #[.pointer (some ⟨s, 0, none⟩), .pointer (some ⟨a, 0, none⟩)]
theorem rd_kg {W : World} {K : Nat → Prop} {km lim s1 a1 s2 a2 : Nat} {o : Obj} (ho : W.heap[km]? = some o) (hr : Rd o (wf s1 a1) (wf s2 a2)) (c1 : Clo W s1 a1 lim 34) (c2 : Clo W s2 a2 lim 35) (hK : K km ∧ K s1 ∧ K a1 ∧ K s2 ∧ K a2) (hl : ∀ k, K k → k < W.heap.size) : KG W K km lim := by
  rcases hr with rfl | rfl
  · exact Kt.kg (s1 := s1) (a1 := a1) (s2 := s2) (a2 := a2) ⟨ho, c1, c2, hK⟩ hl
  · exact KtR.kg (s1 := s1) (a1 := a1) (s2 := s2) (a2 := a2) ⟨ho, c1, c2, hK⟩ hl
theorem look_empty {W : World} {km : Nat} (hm : W.heap[km]? = some (.map #[] 0)) (op : Int) : (Instr.lookup 32 (.map (some km)) (.int .i64 op) false).run Try.prog W = .ok .nilFunc W := by
  have hch : ∀ b, (Instr.checkKey b 10000 44 (.int .i64 op)).run Try.prog W = .ok () W := fun b => by cases b <;> kernel_rfl
  have hget := get_map (P := Try.prog) hm
  simp [Instr.lookup, run_underlying Try.underlying32, hget, hch, Instr.findKey, run_underlying Try.underlying44, Instr.findNow]
set_option maxRecDepth 100000 in
theorem kit_empty {W : World} {km : Nat} (h : W.heap[km]? = some (.map #[] 0)) (th op arg data : Int) :
    Calls Try.prog 51 #[.map (some km), .agg #[.int .i64 th, .int .i64 op, .int .i64 arg, .int .i64 data]] W fun e w' => e = .returned .nilIface ∧ w' = W.alloc (mvO th op arg data) := by
  have L := fun o => look_empty ((Below.heap_alloc W o km (Array.getElem?_eq_some_iff.1 h).1).trans h) op
  have qn := nil_nil
  clear h
  go_enter_defers Try.func51, Try.ntmps51
  go_wp2
  refine leaves_cons (f := 62) (args := #[]) (by simp) (by simp [go_sem]) ?_
  refine (begin_idle _).mono ?_
  rintro e u' w2 ⟨rfl, rfl, hw⟩
  obtain rfl := hw.symm
  simp [Leaves, settle, results, Try.results51, go_sem, mvO]
theorem empty_kg {W : World} {K : Nat → Prop} {km : Nat} (ho : W.heap[km]? = some (.map #[] 0)) (hK : K km) (hl : ∀ k, K k → k < W.heap.size) : KG W K km 0 := by
  refine ⟨hl, fun W' hk => ⟨fun _ _ ad h => absurd h (Nat.not_lt_zero _), fun _ _ ad h => absurd h (Nat.not_lt_zero _), fun th op arg data _ => ?_⟩⟩
  refine (kit_empty ((hk km hK).trans ho) th op arg data).mono ?_
  rintro e w' ⟨rfl, rfl⟩
  exact ⟨rfl, (Below.refl _ _).alloc (Nat.le_refl _) _⟩
set_option maxRecDepth 100000 in
set_option maxHeartbeats 4000000 in
theorem join_none (w : World) : Calls Try.prog 9 #[.slice none 0 0] w fun e w' => e = .returned (.map (some w.heap.size)) ∧ w' = w.alloc (.map #[] 0) := by
  have m0 := Ma.run_makeMap
  go_enter Try.func9, Try.ntmps9
  go_wp2
  refine wp_loop_rounds 1 ?_
  rw [rounds_succ]
  go_wp2
  go_ret
  exact ⟨rfl, rfl⟩
set_option maxRecDepth 100000 in
set_option maxHeartbeats 4000000 in
theorem join_two (w : World) (gs cap b1 b2 : Nat) (f1 f2 g1 g2 : Value) (hc : 2 ≤ cap) (hcm : cap ≤ 9223372036854775807) (c0 : w.cell? ⟨gs, 0, none⟩ = some (.map (some b1))) (c1 : w.cell? ⟨gs, 1, none⟩ = some (.map (some b2))) (h1 : w.heap[b1]? = some (two 1 f1 2 f2)) (h2 : w.heap[b2]? = some (two 1 g1 2 g2)) :
    Calls Try.prog 9 #[.slice (some ⟨gs, 0, none⟩) 2 cap] w fun e w' => e = .returned (.map (some w.heap.size)) ∧ (∃ o, w'.heap[w.heap.size]? = some o ∧ Rd o g1 g2) ∧ Below w.heap.size w w' ∧ w.heap.size < w'.heap.size := by
  have m0 := Ma.run_makeMap
  have l1 : b1 < w.heap.size := (Array.getElem?_eq_some_iff.1 h1).1
  have l2 : b2 < w.heap.size := (Array.getElem?_eq_some_iff.1 h2).1
  have lg : gs < w.heap.size := World.block_lt_of_cell? w ⟨gs, 0, none⟩ c0
  have B0 : Below w.heap.size w (w.alloc (.map #[] 0)) := (Below.refl _ _).alloc (Nat.le_refl _) _
  have C1 := Mr.hid (copy_new (w.alloc (.map #[] 0)) w.heap.size b1 (by omega) f1 f2 ((B0.block _ l1).trans h1) (heap_alloc_new w _))
  have C2 := Mr.hid (fun (W : World) (o : Obj) (hB : Below w.heap.size w W) (ho : W.heap[w.heap.size]? = some o) (hr : Rd o f1 f2) => copy_over W w.heap.size b2 (by omega) g1 g2 f1 f2 ((hB.block _ l2).trans h2) ho hr)
  have CE := Mr.hid (fun (W : World) (hB : Below w.heap.size w W) => (⟨(hB.cell (p := ⟨gs, 0, none⟩) lg).trans c0, (hB.cell (p := ⟨gs, 1, none⟩) lg).trans c1⟩ : _ ∧ _))
  have hsz : (w.alloc (.map #[] 0)).heap.size = w.heap.size + 1 := by simp
  replace B0 := Mr.hid B0
  obtain ⟨k0, k1⟩ := CE.out _ B0.out
  clear h1 h2 c0 c1
  go_enter Try.func9, Try.ntmps9
  go_wp2
  refine wp_loop_rounds 3 ?_
  rw [rounds_succ]
  go_wp2_with (go_at_call 32; refine C1.out.mono ?_; clear C1; rintro e w1 ⟨rfl, ⟨o1, ho1, hr1⟩, hF1⟩; have B1 := Mr.hid (B0.out.trans (hF1.below (fun k hk => by rw [hk]; exact Nat.le_refl _) B0.out.size)); have z1 := hF1.size; rw [hsz] at z1; have C2' := Mr.hid (C2.out w1 o1 B1.out ho1 hr1); obtain ⟨k2, k3⟩ := CE.out _ B1.out; clear C2 hF1 ho1 hr1 k0 k1)
  rw [rounds_succ]
  go_wp2_with (go_at_call 32; refine C2'.out.mono ?_; clear C2'; rintro e w2 ⟨rfl, ⟨o2, ho2, hr2⟩, hF2⟩; have B2 := Mr.hid (B1.out.trans (hF2.below (fun k hk => by rw [hk]; exact Nat.le_refl _) B1.out.size)); have z2 := hF2.size; have HO := Mr.hid (And.intro ho2 hr2); clear hF2 ho2 hr2 k2 k3)
  rw [rounds_succ]
  go_wp2
  go_ret
  exact ⟨rfl, ⟨o2, HO.out.1, HO.out.2⟩, B2.out, by omega⟩
end Go.Proofs.Ytglppcoohojmpaa.Rf
