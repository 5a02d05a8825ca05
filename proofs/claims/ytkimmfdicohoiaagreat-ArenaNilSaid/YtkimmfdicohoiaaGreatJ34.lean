import Derived.Test.YtkimmfdicohoiaaGreatJ33
import Derived.Shelf.Abstract
/-
  THE ARENA's kit: its map, its makers by their contracts.
-/
namespace Go.Proofs.YtkimmfdicohoiaaGreat.Ar
open Go.RowKit Mr Me Ma Wc Wm
section
variable {W : World} {T K : Nat → Prop} {ba gs cs km ca : Nat} {c : Cf} {vca : Value} {vs : List Value} {A : Ao}
theorem made_arena (h : Ar W T ba gs cs c vca vs A) (hn : 0 < A.sl.length) : Calls Tryz.prog 48 #[.pointer (some ⟨ba, 0, none⟩)] W fun e w' => e = .returned (.bool true) ∧ w' = W := by
  have c7 := h.c7
  have d0 : decide ((0 : Int) < (A.sl.length : Int)) = true := by simp; omega
  clear h
  go_enter Tryz.func48, Tryz.ntmps48
  go_wp2
  go_ret
  exact ⟨rfl, rfl⟩
def tkO (ba i : Nat) : Obj := .cells (tkB ba i ⟨1, 0, 0, 0, false⟩) 150 (0, 0)
def gvO (ba i : Nat) (x : Int) : Obj := .cells (gvB ba i ⟨2, x, 0, 0, false⟩ 0) 154 (0, 0)
def flO (ba i : Nat) : Obj := .cells (gvB ba i ⟨3, 0, 0, 0, false⟩ 4) 155 (0, 0)
theorem take_new (h : Ar W T ba gs cs c vca vs A) (hn : 0 < A.sl.length) (i : Nat) : Calls Tryz.prog 27 #[.pointer (some ⟨ba, 0, none⟩), .int .i64 (i : Int)] W fun e w' => e = .returned (.pointer (some ⟨W.heap.size, 0, none⟩)) ∧ w' = W.alloc (tkO ba i) := by
  have C := made_arena h hn
  clear h
  go_enter Tryz.func27, Tryz.ntmps27
  go_wp2_with (go_at_call 48; refine C.mono ?_; clear C; rintro e w' ⟨rfl, hw⟩; obtain rfl := hw.symm)
  go_ret
  exact ⟨rfl, rfl⟩
theorem flush_new (W : World) (ba i : Nat) : Calls Tryz.prog 29 #[.pointer (some ⟨ba, 0, none⟩), .int .i64 (i : Int)] W fun e w' => e = .returned (.pointer (some ⟨W.heap.size + 1, 0, none⟩)) ∧ Below W.heap.size W w' ∧ w'.heap[W.heap.size + 1]? = some (flO ba i) := by
  go_enter Tryz.func29, Tryz.ntmps29
  go_wp2
  go_ret
  refine ⟨by simp, ?_, ?_⟩
  · exact ((Below.refl _ _).alloc (Nat.le_refl _) _).alloc (by simp) _
  · have := heap_alloc_new (W.alloc (.cells #[.pointer (some ⟨ba, 0, none⟩), .int .i64 (i : Int), .int .i64 0, .int .i64 3, .int .u64 0] 148)) (flO ba i)
    rw [World.size_alloc] at this
    exact this
theorem give_new (h : Ar W T ba gs cs c vca vs A) (i : Nat) (hi : i < A.ca.length) (x : Int) (hx : A.has x) : Calls Tryz.prog 28 #[.pointer (some ⟨ba, 0, none⟩), .int .i64 (i : Int), .int .i64 x] W fun e w' => e = .returned (.pointer (some ⟨W.heap.size + 1, 0, none⟩)) ∧ Below W.heap.size W w' ∧ w'.heap[W.heap.size + 1]? = some (gvO ba i x) := by
  have C := hasSlot_any h x
  rw [decide_eq_true hx] at C
  have D := hasThread_yes h i hi
  clear h
  go_enter Tryz.func28, Tryz.ntmps28
  go_wp2_with (first | (go_at_call 66; refine C.mono ?_; clear C; rintro e w' ⟨rfl, hw⟩; obtain rfl := hw.symm) | (go_at_call 69; refine D.mono ?_; clear D; rintro e w' ⟨rfl, hw⟩; obtain rfl := hw.symm))
  go_ret
  refine ⟨by simp, ?_, ?_⟩
  · exact ((Below.refl _ _).alloc (Nat.le_refl _) _).alloc (by simp) _
  · have := heap_alloc_new (W.alloc (.cells #[.pointer (some ⟨ba, 0, none⟩), .int .i64 (i : Int), .int .i64 x, .int .i64 2, .int .u64 0] 148)) (gvO ba i x)
    rw [World.size_alloc] at this
    exact this
theorem state_no (h : Ar W T ba gs cs c vca vs A) (x : Int) (hx : ¬ A.has x) : Calls Tryz.prog 23 #[.pointer (some ⟨ba, 0, none⟩), .int .i64 x] W fun e w' => e = .returned (.tuple #[.int .i64 0, .int .i64 0, .int .i64 2]) ∧ w' = W := by
  have C := hasSlot_any h x
  rw [decide_eq_false hx] at C
  clear h
  go_enter Tryz.func23, Tryz.ntmps23
  go_wp2_with (go_at_call 66; refine C.mono ?_; clear C; rintro e w' ⟨rfl, hw⟩; obtain rfl := hw.symm)
  go_ret3
  exact ⟨rfl, rfl⟩
set_option maxRecDepth 100000 in
theorem state_yes (h : Ar W T ba gs cs c vca vs A) (x : Int) (hx : A.has x) : Calls Tryz.prog 23 #[.pointer (some ⟨ba, 0, none⟩), .int .i64 x] W fun e w' => e = .returned (.tuple #[.int .i64 (A.st x).1, .int .i64 (A.st x).2, .int .i64 0]) ∧ Below W.heap.size W w' ∧ w'.heap.size = W.heap.size + 1 := by
  have C := hasSlot_any h x
  rw [decide_eq_true hx] at C
  obtain ⟨n, rfl⟩ : ∃ n : Nat, x = n := ⟨x.toNat, by have := hx.1; omega⟩
  have hn : n < A.sl.length := by have := hx.2; omega
  obtain ⟨y, hy⟩ : ∃ y, A.sl[n]? = some y := ⟨_, List.getElem?_eq_getElem hn⟩
  have hst : A.st (n : Int) = y := by simp [Ao.st, hy]
  rw [hst]
  have c7 := h.c7
  obtain ⟨k0, _⟩ := h.slotAt n 0 y _ hy rfl
  obtain ⟨k1, _⟩ := h.slotAt n 1 y _ hy rfl
  rw [Nat.add_zero] at k0
  have hn' : (n : Int) < (A.sl.length : Int) := by omega
  clear h
  go_enter Tryz.func23, Tryz.ntmps23
  go_wp2_with (go_at_call 66; refine C.mono ?_; clear C; rintro e w' ⟨rfl, hw⟩; obtain rfl := hw.symm)
  go_quiet (fail)
  go_wp2
  go_ret3
  exact ⟨rfl, ((Below.refl _ _).alloc (Nat.le_refl _) _).trans (Bx.draws _ _ _), by simp [World.drewN]⟩
theorem owns_any (h : Ar W T ba gs cs c vca vs A) (i : Nat) (x : Int) : Calls Tryz.prog 51 #[.pointer (some ⟨ba, 0, none⟩), .int .i64 (i : Int), .int .i64 x] W fun e w' => e = .returned (.bool (decide (A.has x ∧ A.st x = (2, (i : Int))))) ∧ Below W.heap.size W w' ∧ (A.has x → w'.heap.size = W.heap.size + 1) := by
  by_cases hx : A.has x
  · have C := state_yes h x hx
    clear h
    rcases hy : A.st x with ⟨y1, y2⟩
    rw [hy] at C
    by_cases h1 : y1 = 2
    · by_cases h2 : y2 = (i : Int)
      · have e0 : decide (A.has x ∧ A.st x = (2, (i : Int))) = true := decide_eq_true ⟨hx, by rw [hy, h1, h2]⟩
        rw [hy] at e0
        rw [e0]
        subst h1 h2
        go_enter Tryz.func51, Tryz.ntmps51
        go_wp2_with (go_at_call 23; refine C.mono ?_; clear C; rintro e w' ⟨rfl, hB, hsz⟩)
        go_ret
        exact ⟨rfl, hB, fun _ => hsz⟩
      · have e0 : decide (A.has x ∧ A.st x = (2, (i : Int))) = false := decide_eq_false (fun e => h2 (by have := e.2; rw [hy] at this; cases this; rfl))
        rw [hy] at e0
        rw [e0]
        have d2 : (y2 == (i : Int)) = false := by simpa using h2
        subst h1
        go_enter Tryz.func51, Tryz.ntmps51
        go_wp2_with (go_at_call 23; refine C.mono ?_; clear C; rintro e w' ⟨rfl, hB, hsz⟩)
        go_ret
        exact ⟨rfl, hB, fun _ => hsz⟩
    · have e0 : decide (A.has x ∧ A.st x = (2, (i : Int))) = false := decide_eq_false (fun e => h1 (by have := e.2; rw [hy] at this; cases this; rfl))
      rw [hy] at e0
      rw [e0]
      have d1 : (y1 == 2) = false := by simpa using h1
      go_enter Tryz.func51, Tryz.ntmps51
      go_wp2_with (go_at_call 23; refine C.mono ?_; clear C; rintro e w' ⟨rfl, hB, hsz⟩)
      go_ret
      exact ⟨rfl, hB, fun _ => hsz⟩
  · have e0 : decide (A.has x ∧ A.st x = (2, (i : Int))) = false := decide_eq_false (fun e => hx e.1)
    rw [e0]
    have C := state_no h x hx
    clear h
    go_enter Tryz.func51, Tryz.ntmps51
    go_wp2_with (go_at_call 23; refine C.mono ?_; clear C; rintro e w' ⟨rfl, hw⟩; obtain rfl := hw.symm)
    go_ret
    exact ⟨rfl, Below.refl _ _, fun h => absurd h hx⟩
end
end Go.Proofs.YtkimmfdicohoiaaGreat.Ar
/-
  THE ARENA's kit: the makers, Kit.begin, Machine.begin.
-/
namespace Go.Proofs.YtkimmfdicohoiaaGreat.Ar
open Go.RowKit Mr Me Ma Wc Wm
def tcO (bt : Nat) : Obj := .cells #[.pointer (some ⟨bt, 0, none⟩)] 121 (0, 0)
section
variable {W : World} {T K : Nat → Prop} {ba gs cs km ca : Nat} {c : Cf} {vca : Value} {vs : List Value} {A : Ao}
theorem Ar.alloc (h : Ar W T ba gs cs c vca vs A) (hl : ∀ k, T k → k < W.heap.size) (o : Obj) : Ar (W.alloc o) T ba gs cs c vca vs A := h.kept (fun k hk => Below.heap_alloc _ _ _ (hl k hk)) (fun _ h => h)
theorem kit1_any (h : Ar W T ba gs cs c vca vs A) (hl : ∀ k, T k → k < W.heap.size) (hn : 0 < A.sl.length) (hc : W.cell? ⟨ca, 0, none⟩ = some (.pointer (some ⟨ba, 0, none⟩))) (i : Nat) (op arg data : Int) :
    Calls Tryz.prog 49 #[.int .i64 (i : Int), .agg #[.int .i64 (i : Int), .int .i64 op, .int .i64 arg, .int .i64 data], .pointer (some ⟨ca, 0, none⟩)] W fun e w' => e = .returned (.iface 119 (.pointer (some ⟨W.heap.size + 1 + 1, 0, none⟩))) ∧ Below W.heap.size W w' ∧ w'.heap[W.heap.size + 1]? = some (tkO ba i) ∧ w'.heap[W.heap.size + 1 + 1]? = some (tcO (W.heap.size + 1)) := by
  have c1 : ∀ o, (W.alloc o).cell? ⟨ca, 0, none⟩ = some (.pointer (some ⟨ba, 0, none⟩)) := fun o => by rw [World.cell?_alloc_past _ _ _ (World.block_lt_of_cell? W ⟨ca, 0, none⟩ hc)]; exact hc
  have C := fun o => take_new (h.alloc hl o) hn i
  have fin : ∀ o1 : Obj, Below W.heap.size W (((W.alloc o1).alloc (tkO ba i)).alloc (tcO (W.heap.size + 1))) ∧ (((W.alloc o1).alloc (tkO ba i)).alloc (tcO (W.heap.size + 1))).heap[W.heap.size + 1]? = some (tkO ba i) ∧ (((W.alloc o1).alloc (tkO ba i)).alloc (tcO (W.heap.size + 1))).heap[W.heap.size + 1 + 1]? = some (tcO (W.heap.size + 1)) := fun o1 => by
    refine ⟨(((Below.refl _ _).alloc (Nat.le_refl _) _).alloc (by simp) _).alloc (by simp; omega) _, ?_, ?_⟩
    · have e := heap_alloc_new (W.alloc o1) (tkO ba i)
      rw [World.size_alloc] at e
      exact (Below.heap_alloc _ _ _ (by simp)).trans e
    · have e := heap_alloc_new ((W.alloc o1).alloc (tkO ba i)) (tcO (W.heap.size + 1))
      rw [World.size_alloc, World.size_alloc] at e
      exact e
  clear h
  replace C := Mr.hid C
  replace fin := Mr.hid fin
  go_enter Tryz.func49, Tryz.ntmps49
  go_wp2_with (go_at_call 27; refine (C.out _).mono ?_; clear C; rintro e w' ⟨rfl, rfl⟩)
  go_ret
  have f1 := fin.out (mvO i op arg data)
  refine ⟨by simp, ?_⟩
  simpa [tcO, mvO] using f1
theorem kit3_any (hc : W.cell? ⟨ca, 0, none⟩ = some (.pointer (some ⟨ba, 0, none⟩))) (i : Nat) (op arg data : Int) :
    Calls Tryz.prog 52 #[.int .i64 (i : Int), .agg #[.int .i64 (i : Int), .int .i64 op, .int .i64 arg, .int .i64 data], .pointer (some ⟨ca, 0, none⟩)] W fun e w' => e = .returned (.iface 76 (.pointer (some ⟨W.heap.size + 1 + 1, 0, none⟩))) ∧ Below W.heap.size W w' ∧ w'.heap[W.heap.size + 1 + 1]? = some (flO ba i) := by
  have c1 : ∀ o, (W.alloc o).cell? ⟨ca, 0, none⟩ = some (.pointer (some ⟨ba, 0, none⟩)) := fun o => by rw [World.cell?_alloc_past _ _ _ (World.block_lt_of_cell? W ⟨ca, 0, none⟩ hc)]; exact hc
  have C := fun o => flush_new (W.alloc o) ba i
  simp only [World.size_alloc] at C
  have bb : ∀ (o : Obj) (w : World), Below (W.heap.size + 1) (W.alloc o) w → Below W.heap.size W w := fun o w h => ((Below.refl _ _).alloc (Nat.le_refl _) o).trans (h.mono (by omega))
  replace C := Mr.hid C
  replace bb := Mr.hid bb
  go_enter Tryz.func52, Tryz.ntmps52
  go_wp2_with (go_at_call 29; refine (C.out _).mono ?_; clear C; rintro e w' ⟨rfl, hB, hw⟩; replace hB := Mr.hid hB; replace hw := Mr.hid hw)
  go_ret
  exact ⟨rfl, bb.out _ _ hB.out, hw.out⟩
theorem kit2_no (h : Ar W T ba gs cs c vca vs A) (hl : ∀ k, T k → k < W.heap.size) (hc : W.cell? ⟨ca, 0, none⟩ = some (.pointer (some ⟨ba, 0, none⟩))) (i : Nat) (op arg data : Int) (hno : ¬ (A.has arg ∧ A.st arg = (2, (i : Int)))) :
    Calls Tryz.prog 50 #[.int .i64 (i : Int), .agg #[.int .i64 (i : Int), .int .i64 op, .int .i64 arg, .int .i64 data], .pointer (some ⟨ca, 0, none⟩)] W fun e w' => e = .returned .nilIface ∧ Below W.heap.size W w' := by
  have c1 : ∀ o, (W.alloc o).cell? ⟨ca, 0, none⟩ = some (.pointer (some ⟨ba, 0, none⟩)) := fun o => by rw [World.cell?_alloc_past _ _ _ (World.block_lt_of_cell? W ⟨ca, 0, none⟩ hc)]; exact hc
  have C := fun o => owns_any (h.alloc hl o) i arg
  rw [decide_eq_false hno] at C
  simp only [World.size_alloc] at C
  have bb : ∀ (o : Obj) (w : World), Below (W.heap.size + 1) (W.alloc o) w → Below W.heap.size W w := fun o w h => ((Below.refl _ _).alloc (Nat.le_refl _) o).trans (h.mono (by omega))
  clear h
  replace C := Mr.hid C
  replace bb := Mr.hid bb
  go_enter Tryz.func50, Tryz.ntmps50
  go_wp2_with (go_at_call 51; refine (C.out _).mono ?_; clear C; rintro e w' ⟨rfl, hB, _⟩; replace hB := Mr.hid hB)
  go_ret
  exact ⟨rfl, bb.out _ _ hB.out⟩
theorem kit2_yes (h : Ar W T ba gs cs c vca vs A) (hl : ∀ k, T k → k < W.heap.size) (hc : W.cell? ⟨ca, 0, none⟩ = some (.pointer (some ⟨ba, 0, none⟩))) (i : Nat) (hi : i < A.ca.length) (op arg data : Int) (hyes : A.has arg ∧ A.st arg = (2, (i : Int))) :
    Calls Tryz.prog 50 #[.int .i64 (i : Int), .agg #[.int .i64 (i : Int), .int .i64 op, .int .i64 arg, .int .i64 data], .pointer (some ⟨ca, 0, none⟩)] W fun e w' => e = .returned (.iface 74 (.pointer (some ⟨W.heap.size + 1 + 1 + 1, 0, none⟩))) ∧ Below W.heap.size W w' ∧ w'.heap[W.heap.size + 1 + 1 + 1]? = some (gvO ba i arg) := by
  have c1 : ∀ o, (W.alloc o).cell? ⟨ca, 0, none⟩ = some (.pointer (some ⟨ba, 0, none⟩)) := fun o => by rw [World.cell?_alloc_past _ _ _ (World.block_lt_of_cell? W ⟨ca, 0, none⟩ hc)]; exact hc
  have C := fun o => owns_any (h.alloc hl o) i arg
  rw [decide_eq_true hyes] at C
  simp only [World.size_alloc] at C
  have y2 : (W.alloc (mvO i op arg data)).cell? ⟨W.heap.size, 2, none⟩ = some (.int .i64 arg) := newsAt W _ #[.int .i64 (i : Int), .int .i64 op, .int .i64 arg, .int .i64 data] 55 _ rfl rfl 2 _ rfl
  have nx : ∀ w1 : World, Below (W.heap.size + 1) (W.alloc (mvO i op arg data)) w1 → w1.heap.size = W.heap.size + 1 + 1 → (w1.cell? ⟨ca, 0, none⟩ = some (.pointer (some ⟨ba, 0, none⟩)) ∧ w1.cell? ⟨W.heap.size, 2, none⟩ = some (.int .i64 arg)) ∧ Hid (Calls Tryz.prog 28 #[.pointer (some ⟨ba, 0, none⟩), .int .i64 (i : Int), .int .i64 arg] w1 fun e w' => e = .returned (.pointer (some ⟨W.heap.size + 1 + 1 + 1, 0, none⟩)) ∧ Below W.heap.size W w' ∧ w'.heap[W.heap.size + 1 + 1 + 1]? = some (gvO ba i arg)) := fun w1 hB hs => by
    have hca := World.block_lt_of_cell? W ⟨ca, 0, none⟩ hc
    refine ⟨⟨(hB.cell (p := ⟨ca, 0, none⟩) (by simp only at hca ⊢; omega)).trans (c1 _), (hB.cell (p := ⟨W.heap.size, 2, none⟩) (by simp)).trans y2⟩, ?_⟩
    have hb0 : Below W.heap.size W w1 := ((Below.refl _ _).alloc (Nat.le_refl _) (mvO i op arg data)).trans (hB.mono (by omega))
    have G := give_new (h.kept (w := w1) (fun k hk => hb0.block k (hl k hk)) (fun _ h => h)) i hi arg hyes.1
    rw [hs] at G
    refine G.mono ?_
    rintro e w' ⟨rfl, g1, g2⟩
    exact ⟨rfl, hb0.trans (g1.mono (by omega)), g2⟩
  have hyes1 := hyes.1
  clear h
  replace C := Mr.hid C
  replace nx := Mr.hid nx
  go_enter Tryz.func50, Tryz.ntmps50
  go_wp2_with (first | (go_at_call 51; refine (C.out _).mono ?_; clear C; rintro e w1 ⟨rfl, hB, hsz⟩; obtain ⟨⟨g0, g1⟩, G⟩ := nx.out w1 hB (hsz hyes1); clear nx; replace hB := Mr.hid hB; replace hsz := Mr.hid hsz) | (go_at_call 28; refine G.out.mono ?_; clear G; rintro e w2 ⟨rfl, h2⟩; replace h2 := Mr.hid h2))
  go_ret
  exact ⟨rfl, h2.out⟩
theorem Ktr.lt (h : Ktr W K km ca ba) : km < W.heap.size := (Array.getElem?_eq_some_iff.1 h.m).1
def mkr (ca : Nat) (op : Int) : Value := if op = 10 then .func (.func 49) #[] #[.pointer (some ⟨ca, 0, none⟩)] else if op = 11 then .func (.func 50) #[] #[.pointer (some ⟨ca, 0, none⟩)] else if op = 12 then .func (.func 52) #[] #[.pointer (some ⟨ca, 0, none⟩)] else .nilFunc
theorem Ktr.look (h : Ktr W K km ca ba) (op : Int) : (Instr.lookup 48 (.map (some km)) (.int .i64 op) false).run Tryz.prog W = .ok (mkr ca op) W := by
  have hm := h.m
  have hch : ∀ b, (Instr.checkKey b 10000 53 (.int .i64 op)).run Tryz.prog W = .ok () W := fun b => by cases b <;> kernel_rfl
  have hget := show (getObj km).run Tryz.prog W = .ok _ W from by simp [getObj, Sem.run, hm]; rfl
  unfold mkr
  by_cases h1 : op = 10
  · subst h1
    simp [Instr.lookup, run_underlying Tryz.underlying48, hget, hch, Instr.findKey, run_underlying Tryz.underlying53, Instr.findNow, Instr.sameNow]
  · by_cases h2 : op = 11
    · subst h2
      simp [Instr.lookup, run_underlying Tryz.underlying48, hget, hch, Instr.findKey, run_underlying Tryz.underlying53, Instr.findNow, Instr.sameNow]
    · by_cases h3 : op = 12
      · subst h3
        simp [Instr.lookup, run_underlying Tryz.underlying48, hget, hch, Instr.findKey, run_underlying Tryz.underlying53, Instr.findNow, Instr.sameNow]
      · have b1 : (op == 10) = false := by simpa using h1
        have b2 : (op == 11) = false := by simpa using h2
        have b3 : (op == 12) = false := by simpa using h3
        simp [Instr.lookup, run_underlying Tryz.underlying48, hget, hch, Instr.findKey, run_underlying Tryz.underlying53, Instr.findNow, Instr.sameNow, b1, b2, b3, h1, h2, h3]
end
end Go.Proofs.YtkimmfdicohoiaaGreat.Ar
