import Derived.Test.YtjpgjhjnneeliaaGreatJ23
import Derived.Shelf.Abstract
/-
  THE ARENA's kit: its map, its makers by their contracts.
-/
namespace Go.Proofs.YtjpgjhjnneeliaaGreat.Ar
open Go.RowKit Mr Me Ma Wc Wm
section
variable {W : World} {T K : Nat → Prop} {ba gs cs km ca : Nat} {c : Cf} {vca : Value} {vs : List Value} {A : Ao}
theorem made_arena (h : Ar W T ba gs cs c vca vs A) (hn : 0 < A.sl.length) : Calls Tryz.prog 45 #[.pointer (some ⟨ba, 0, none⟩)] W fun e w' => e = .returned (.bool true) ∧ w' = W := by
  have c7 := h.c7
  have d0 : decide ((0 : Int) < (A.sl.length : Int)) = true := by simp; omega
  clear h
  go_enter Tryz.func45, Tryz.ntmps45
  go_wp2
  go_ret
  exact ⟨rfl, rfl⟩
def tkO (ba i : Nat) : Obj := .cells (tkB ba i ⟨1, 0, 0, 0, false⟩) 156 (0, 0)
def gvO (ba i : Nat) (x : Int) : Obj := .cells (gvB ba i ⟨2, x, 0, 0, false⟩ 0) 160 (0, 0)
def flO (ba i : Nat) : Obj := .cells (gvB ba i ⟨3, 0, 0, 0, false⟩ 4) 161 (0, 0)
theorem take_new (h : Ar W T ba gs cs c vca vs A) (hn : 0 < A.sl.length) (i : Nat) : Calls Tryz.prog 47 #[.pointer (some ⟨ba, 0, none⟩), .int .i64 (i : Int)] W fun e w' => e = .returned (.pointer (some ⟨W.heap.size, 0, none⟩)) ∧ w' = W.alloc (tkO ba i) := by
  have C := made_arena h hn
  clear h
  go_enter Tryz.func47, Tryz.ntmps47
  go_wp2_with (go_at_call 45; refine C.mono ?_; clear C; rintro e w' ⟨rfl, hw⟩; obtain rfl := hw.symm)
  go_ret
  exact ⟨rfl, rfl⟩
theorem flush_new (W : World) (ba i : Nat) : Calls Tryz.prog 52 #[.pointer (some ⟨ba, 0, none⟩), .int .i64 (i : Int)] W fun e w' => e = .returned (.pointer (some ⟨W.heap.size + 1, 0, none⟩)) ∧ Below W.heap.size W w' ∧ w'.heap[W.heap.size + 1]? = some (flO ba i) := by
  go_enter Tryz.func52, Tryz.ntmps52
  go_wp2
  go_ret
  refine ⟨by simp, ?_, ?_⟩
  · exact ((Below.refl _ _).alloc (Nat.le_refl _) _).alloc (by simp) _
  · have := heap_alloc_new (W.alloc (.cells #[.pointer (some ⟨ba, 0, none⟩), .int .i64 (i : Int), .int .i64 0, .int .i64 3, .int .u64 0] 154)) (flO ba i)
    rw [World.size_alloc] at this
    exact this
theorem give_new (h : Ar W T ba gs cs c vca vs A) (i : Nat) (hi : i < A.ca.length) (x : Int) (hx : A.has x) : Calls Tryz.prog 50 #[.pointer (some ⟨ba, 0, none⟩), .int .i64 (i : Int), .int .i64 x] W fun e w' => e = .returned (.pointer (some ⟨W.heap.size + 1, 0, none⟩)) ∧ Below W.heap.size W w' ∧ w'.heap[W.heap.size + 1]? = some (gvO ba i x) := by
  have C := hasSlot_any h x
  rw [decide_eq_true hx] at C
  have D := hasThread_yes h i hi
  clear h
  go_enter Tryz.func50, Tryz.ntmps50
  go_wp2_with (first | (go_at_call 57; refine C.mono ?_; clear C; rintro e w' ⟨rfl, hw⟩; obtain rfl := hw.symm) | (go_at_call 34; refine D.mono ?_; clear D; rintro e w' ⟨rfl, hw⟩; obtain rfl := hw.symm))
  go_ret
  refine ⟨by simp, ?_, ?_⟩
  · exact ((Below.refl _ _).alloc (Nat.le_refl _) _).alloc (by simp) _
  · have := heap_alloc_new (W.alloc (.cells #[.pointer (some ⟨ba, 0, none⟩), .int .i64 (i : Int), .int .i64 x, .int .i64 2, .int .u64 0] 154)) (gvO ba i x)
    rw [World.size_alloc] at this
    exact this
theorem state_no (h : Ar W T ba gs cs c vca vs A) (x : Int) (hx : ¬ A.has x) : Calls Tryz.prog 29 #[.pointer (some ⟨ba, 0, none⟩), .int .i64 x] W fun e w' => e = .returned (.tuple #[.int .i64 0, .int .i64 0, .int .i64 2]) ∧ w' = W := by
  have C := hasSlot_any h x
  rw [decide_eq_false hx] at C
  clear h
  go_enter Tryz.func29, Tryz.ntmps29
  go_wp2_with (go_at_call 57; refine C.mono ?_; clear C; rintro e w' ⟨rfl, hw⟩; obtain rfl := hw.symm)
  go_ret3
  exact ⟨rfl, rfl⟩
set_option maxRecDepth 100000 in
theorem state_yes (h : Ar W T ba gs cs c vca vs A) (x : Int) (hx : A.has x) : Calls Tryz.prog 29 #[.pointer (some ⟨ba, 0, none⟩), .int .i64 x] W fun e w' => e = .returned (.tuple #[.int .i64 (A.st x).1, .int .i64 (A.st x).2, .int .i64 0]) ∧ Below W.heap.size W w' ∧ w'.heap.size = W.heap.size + 1 := by
  have C := hasSlot_any h x
  rw [decide_eq_true hx] at C
  obtain ⟨n, rfl⟩ : ∃ n : Nat, x = n := ⟨x.toNat, by have := hx.1; omega⟩
  have hn : n < A.sl.length := by have := hx.2; omega
  obtain ⟨y, hy⟩ : ∃ y, A.sl[n]? = some y := ⟨_, List.getElem?_eq_getElem hn⟩
  have hst : A.st (n : Int) = y := by simp [Ao.st, hy]
  rw [hst]
  have c7 := h.c7
  obtain ⟨k0, _⟩ := h.slotAt n 0 y _ hy rfl
  obtain ⟨k1, _⟩ := h.slotAt n 1 y _ hy rfl
  rw [Nat.add_zero] at k0
  have hn' : (n : Int) < (A.sl.length : Int) := by omega
  clear h
  go_enter Tryz.func29, Tryz.ntmps29
  go_wp2_with (go_at_call 57; refine C.mono ?_; clear C; rintro e w' ⟨rfl, hw⟩; obtain rfl := hw.symm)
  go_quiet (fail)
  go_wp2
  go_ret3
  exact ⟨rfl, ((Below.refl _ _).alloc (Nat.le_refl _) _).trans (Bx.draws _ _ _), by simp [World.drewN]⟩
theorem owns_any (h : Ar W T ba gs cs c vca vs A) (i : Nat) (x : Int) : Calls Tryz.prog 49 #[.pointer (some ⟨ba, 0, none⟩), .int .i64 (i : Int), .int .i64 x] W fun e w' => e = .returned (.bool (decide (A.has x ∧ A.st x = (2, (i : Int))))) ∧ Below W.heap.size W w' ∧ (A.has x → w'.heap.size = W.heap.size + 1) := by
  by_cases hx : A.has x
  · have C := state_yes h x hx
    clear h
    rcases hy : A.st x with ⟨y1, y2⟩
    rw [hy] at C
    by_cases h1 : y1 = 2
    · by_cases h2 : y2 = (i : Int)
      · have e0 : decide (A.has x ∧ A.st x = (2, (i : Int))) = true := decide_eq_true ⟨hx, by rw [hy, h1, h2]⟩
        rw [hy] at e0
        rw [e0]
        subst h1 h2
        go_enter Tryz.func49, Tryz.ntmps49
        go_wp2_with (go_at_call 29; refine C.mono ?_; clear C; rintro e w' ⟨rfl, hB, hsz⟩)
        go_ret
        exact ⟨rfl, hB, fun _ => hsz⟩
      · have e0 : decide (A.has x ∧ A.st x = (2, (i : Int))) = false := decide_eq_false (fun e => h2 (by have := e.2; rw [hy] at this; cases this; rfl))
        rw [hy] at e0
        rw [e0]
        have d2 : (y2 == (i : Int)) = false := by simpa using h2
        subst h1
        go_enter Tryz.func49, Tryz.ntmps49
        go_wp2_with (go_at_call 29; refine C.mono ?_; clear C; rintro e w' ⟨rfl, hB, hsz⟩)
        go_ret
        exact ⟨rfl, hB, fun _ => hsz⟩
    · have e0 : decide (A.has x ∧ A.st x = (2, (i : Int))) = false := decide_eq_false (fun e => h1 (by have := e.2; rw [hy] at this; cases this; rfl))
      rw [hy] at e0
      rw [e0]
      have d1 : (y1 == 2) = false := by simpa using h1
      go_enter Tryz.func49, Tryz.ntmps49
      go_wp2_with (go_at_call 29; refine C.mono ?_; clear C; rintro e w' ⟨rfl, hB, hsz⟩)
      go_ret
      exact ⟨rfl, hB, fun _ => hsz⟩
  · have e0 : decide (A.has x ∧ A.st x = (2, (i : Int))) = false := decide_eq_false (fun e => hx e.1)
    rw [e0]
    have C := state_no h x hx
    clear h
    go_enter Tryz.func49, Tryz.ntmps49
    go_wp2_with (go_at_call 29; refine C.mono ?_; clear C; rintro e w' ⟨rfl, hw⟩; obtain rfl := hw.symm)
    go_ret
    exact ⟨rfl, Below.refl _ _, fun h => absurd h hx⟩
end
end Go.Proofs.YtjpgjhjnneeliaaGreat.Ar
/-
  THE ARENA's kit: the makers, Kit.begin, Machine.begin.
-/
namespace Go.Proofs.YtjpgjhjnneeliaaGreat.Ar
open Go.RowKit Mr Me Ma Wc Wm
def tcO (bt : Nat) : Obj := .cells #[.pointer (some ⟨bt, 0, none⟩)] 119 (0, 0)
section
variable {W : World} {T K : Nat → Prop} {ba gs cs km ca : Nat} {c : Cf} {vca : Value} {vs : List Value} {A : Ao}
theorem Ar.alloc (h : Ar W T ba gs cs c vca vs A) (hl : ∀ k, T k → k < W.heap.size) (o : Obj) : Ar (W.alloc o) T ba gs cs c vca vs A := h.kept (fun k hk => Below.heap_alloc _ _ _ (hl k hk)) (fun _ h => h)
theorem kit1_any (h : Ar W T ba gs cs c vca vs A) (hl : ∀ k, T k → k < W.heap.size) (hn : 0 < A.sl.length) (hc : W.cell? ⟨ca, 0, none⟩ = some (.pointer (some ⟨ba, 0, none⟩))) (i : Nat) (op arg data : Int) :
    Calls Tryz.prog 46 #[.int .i64 (i : Int), .agg #[.int .i64 (i : Int), .int .i64 op, .int .i64 arg, .int .i64 data], .pointer (some ⟨ca, 0, none⟩)] W fun e w' => e = .returned (.iface 115 (.pointer (some ⟨W.heap.size + 1 + 1, 0, none⟩))) ∧ Below W.heap.size W w' ∧ w'.heap[W.heap.size + 1]? = some (tkO ba i) ∧ w'.heap[W.heap.size + 1 + 1]? = some (tcO (W.heap.size + 1)) := by
  have c1 : ∀ o, (W.alloc o).cell? ⟨ca, 0, none⟩ = some (.pointer (some ⟨ba, 0, none⟩)) := fun o => by rw [World.cell?_alloc_past _ _ _ (World.block_lt_of_cell? W ⟨ca, 0, none⟩ hc)]; exact hc
  have C := fun o => take_new (h.alloc hl o) hn i
  have fin : ∀ o1 : Obj, Below W.heap.size W (((W.alloc o1).alloc (tkO ba i)).alloc (tcO (W.heap.size + 1))) ∧ (((W.alloc o1).alloc (tkO ba i)).alloc (tcO (W.heap.size + 1))).heap[W.heap.size + 1]? = some (tkO ba i) ∧ (((W.alloc o1).alloc (tkO ba i)).alloc (tcO (W.heap.size + 1))).heap[W.heap.size + 1 + 1]? = some (tcO (W.heap.size + 1)) := fun o1 => by
    refine ⟨(((Below.refl _ _).alloc (Nat.le_refl _) _).alloc (by simp) _).alloc (by simp; omega) _, ?_, ?_⟩
    · have e := heap_alloc_new (W.alloc o1) (tkO ba i)
      rw [World.size_alloc] at e
      exact (Below.heap_alloc _ _ _ (by simp)).trans e
    · have e := heap_alloc_new ((W.alloc o1).alloc (tkO ba i)) (tcO (W.heap.size + 1))
      rw [World.size_alloc, World.size_alloc] at e
      exact e
  clear h
  replace C := Mr.hid C
  replace fin := Mr.hid fin
  go_enter Tryz.func46, Tryz.ntmps46
  go_wp2_with (go_at_call 47; refine (C.out _).mono ?_; clear C; rintro e w' ⟨rfl, rfl⟩)
  go_ret
  have f1 := fin.out (mvO i op arg data)
  refine ⟨by simp, ?_⟩
  simpa [tcO, mvO] using f1
theorem kit3_any (hc : W.cell? ⟨ca, 0, none⟩ = some (.pointer (some ⟨ba, 0, none⟩))) (i : Nat) (op arg data : Int) :
    Calls Tryz.prog 51 #[.int .i64 (i : Int), .agg #[.int .i64 (i : Int), .int .i64 op, .int .i64 arg, .int .i64 data], .pointer (some ⟨ca, 0, none⟩)] W fun e w' => e = .returned (.iface 123 (.pointer (some ⟨W.heap.size + 1 + 1, 0, none⟩))) ∧ Below W.heap.size W w' ∧ w'.heap[W.heap.size + 1 + 1]? = some (flO ba i) := by
  have c1 : ∀ o, (W.alloc o).cell? ⟨ca, 0, none⟩ = some (.pointer (some ⟨ba, 0, none⟩)) := fun o => by rw [World.cell?_alloc_past _ _ _ (World.block_lt_of_cell? W ⟨ca, 0, none⟩ hc)]; exact hc
  have C := fun o => flush_new (W.alloc o) ba i
  simp only [World.size_alloc] at C
  have bb : ∀ (o : Obj) (w : World), Below (W.heap.size + 1) (W.alloc o) w → Below W.heap.size W w := fun o w h => ((Below.refl _ _).alloc (Nat.le_refl _) o).trans (h.mono (by omega))
  replace C := Mr.hid C
  replace bb := Mr.hid bb
  go_enter Tryz.func51, Tryz.ntmps51
  go_wp2_with (go_at_call 52; refine (C.out _).mono ?_; clear C; rintro e w' ⟨rfl, hB, hw⟩; replace hB := Mr.hid hB; replace hw := Mr.hid hw)
  go_ret
  exact ⟨rfl, bb.out _ _ hB.out, hw.out⟩
theorem kit2_no (h : Ar W T ba gs cs c vca vs A) (hl : ∀ k, T k → k < W.heap.size) (hc : W.cell? ⟨ca, 0, none⟩ = some (.pointer (some ⟨ba, 0, none⟩))) (i : Nat) (op arg data : Int) (hno : ¬ (A.has arg ∧ A.st arg = (2, (i : Int)))) :
    Calls Tryz.prog 48 #[.int .i64 (i : Int), .agg #[.int .i64 (i : Int), .int .i64 op, .int .i64 arg, .int .i64 data], .pointer (some ⟨ca, 0, none⟩)] W fun e w' => e = .returned .nilIface ∧ Below W.heap.size W w' := by
  have c1 : ∀ o, (W.alloc o).cell? ⟨ca, 0, none⟩ = some (.pointer (some ⟨ba, 0, none⟩)) := fun o => by rw [World.cell?_alloc_past _ _ _ (World.block_lt_of_cell? W ⟨ca, 0, none⟩ hc)]; exact hc
  have C := fun o => owns_any (h.alloc hl o) i arg
  rw [decide_eq_false hno] at C
  simp only [World.size_alloc] at C
  have bb : ∀ (o : Obj) (w : World), Below (W.heap.size + 1) (W.alloc o) w → Below W.heap.size W w := fun o w h => ((Below.refl _ _).alloc (Nat.le_refl _) o).trans (h.mono (by omega))
  clear h
  replace C := Mr.hid C
  replace bb := Mr.hid bb
  go_enter Tryz.func48, Tryz.ntmps48
  go_wp2_with (go_at_call 49; refine (C.out _).mono ?_; clear C; rintro e w' ⟨rfl, hB, _⟩; replace hB := Mr.hid hB)
  go_ret
  exact ⟨rfl, bb.out _ _ hB.out⟩
theorem kit2_yes (h : Ar W T ba gs cs c vca vs A) (hl : ∀ k, T k → k < W.heap.size) (hc : W.cell? ⟨ca, 0, none⟩ = some (.pointer (some ⟨ba, 0, none⟩))) (i : Nat) (hi : i < A.ca.length) (op arg data : Int) (hyes : A.has arg ∧ A.st arg = (2, (i : Int))) :
    Calls Tryz.prog 48 #[.int .i64 (i : Int), .agg #[.int .i64 (i : Int), .int .i64 op, .int .i64 arg, .int .i64 data], .pointer (some ⟨ca, 0, none⟩)] W fun e w' => e = .returned (.iface 121 (.pointer (some ⟨W.heap.size + 1 + 1 + 1, 0, none⟩))) ∧ Below W.heap.size W w' ∧ w'.heap[W.heap.size + 1 + 1 + 1]? = some (gvO ba i arg) := by
  have c1 : ∀ o, (W.alloc o).cell? ⟨ca, 0, none⟩ = some (.pointer (some ⟨ba, 0, none⟩)) := fun o => by rw [World.cell?_alloc_past _ _ _ (World.block_lt_of_cell? W ⟨ca, 0, none⟩ hc)]; exact hc
  have C := fun o => owns_any (h.alloc hl o) i arg
  rw [decide_eq_true hyes] at C
  simp only [World.size_alloc] at C
  have y2 : (W.alloc (mvO i op arg data)).cell? ⟨W.heap.size, 2, none⟩ = some (.int .i64 arg) := newsAt W _ #[.int .i64 (i : Int), .int .i64 op, .int .i64 arg, .int .i64 data] 57 _ rfl rfl 2 _ rfl
  have nx : ∀ w1 : World, Below (W.heap.size + 1) (W.alloc (mvO i op arg data)) w1 → w1.heap.size = W.heap.size + 1 + 1 → (w1.cell? ⟨ca, 0, none⟩ = some (.pointer (some ⟨ba, 0, none⟩)) ∧ w1.cell? ⟨W.heap.size, 2, none⟩ = some (.int .i64 arg)) ∧ Hid (Calls Tryz.prog 50 #[.pointer (some ⟨ba, 0, none⟩), .int .i64 (i : Int), .int .i64 arg] w1 fun e w' => e = .returned (.pointer (some ⟨W.heap.size + 1 + 1 + 1, 0, none⟩)) ∧ Below W.heap.size W w' ∧ w'.heap[W.heap.size + 1 + 1 + 1]? = some (gvO ba i arg)) := fun w1 hB hs => by
    have hca := World.block_lt_of_cell? W ⟨ca, 0, none⟩ hc
    refine ⟨⟨(hB.cell (p := ⟨ca, 0, none⟩) (by simp only at hca ⊢; omega)).trans (c1 _), (hB.cell (p := ⟨W.heap.size, 2, none⟩) (by simp)).trans y2⟩, ?_⟩
    have hb0 : Below W.heap.size W w1 := ((Below.refl _ _).alloc (Nat.le_refl _) (mvO i op arg data)).trans (hB.mono (by omega))
    have G := give_new (h.kept (w := w1) (fun k hk => hb0.block k (hl k hk)) (fun _ h => h)) i hi arg hyes.1
    rw [hs] at G
    refine G.mono ?_
    rintro e w' ⟨rfl, g1, g2⟩
    exact ⟨rfl, hb0.trans (g1.mono (by omega)), g2⟩
  have hyes1 := hyes.1
  clear h
  replace C := Mr.hid C
  replace nx := Mr.hid nx
  go_enter Tryz.func48, Tryz.ntmps48
  go_wp2_with (first | (go_at_call 49; refine (C.out _).mono ?_; clear C; rintro e w1 ⟨rfl, hB, hsz⟩; obtain ⟨⟨g0, g1⟩, G⟩ := nx.out w1 hB (hsz hyes1); clear nx; replace hB := Mr.hid hB; replace hsz := Mr.hid hsz) | (go_at_call 50; refine G.out.mono ?_; clear G; rintro e w2 ⟨rfl, h2⟩; replace h2 := Mr.hid h2))
  go_ret
  exact ⟨rfl, h2.out⟩
theorem Ktr.lt (h : Ktr W K km ca ba) : km < W.heap.size := (Array.getElem?_eq_some_iff.1 h.m).1
def mkr (ca : Nat) (op : Int) : Value := if op = 10 then .func (.func 46) #[] #[.pointer (some ⟨ca, 0, none⟩)] else if op = 11 then .func (.func 48) #[] #[.pointer (some ⟨ca, 0, none⟩)] else if op = 12 then .func (.func 51) #[] #[.pointer (some ⟨ca, 0, none⟩)] else .nilFunc
theorem Ktr.look (h : Ktr W K km ca ba) (op : Int) : (Instr.lookup 77 (.map (some km)) (.int .i64 op) false).run Tryz.prog W = .ok (mkr ca op) W := by
  have hm := h.m
  have hch : ∀ b, (Instr.checkKey b 10000 37 (.int .i64 op)).run Tryz.prog W = .ok () W := fun b => by cases b <;> kernel_rfl
  have hget := show (getObj km).run Tryz.prog W = .ok _ W from by simp [getObj, Sem.run, hm]; rfl
  unfold mkr
  by_cases h1 : op = 10
  · subst h1
    simp [Instr.lookup, run_underlying Tryz.underlying77, hget, hch, Instr.findKey, run_underlying Tryz.underlying37, Instr.findNow, Instr.sameNow]
  · by_cases h2 : op = 11
    · subst h2
      simp [Instr.lookup, run_underlying Tryz.underlying77, hget, hch, Instr.findKey, run_underlying Tryz.underlying37, Instr.findNow, Instr.sameNow]
    · by_cases h3 : op = 12
      · subst h3
        simp [Instr.lookup, run_underlying Tryz.underlying77, hget, hch, Instr.findKey, run_underlying Tryz.underlying37, Instr.findNow, Instr.sameNow]
      · have b1 : (op == 10) = false := by simpa using h1
        have b2 : (op == 11) = false := by simpa using h2
        have b3 : (op == 12) = false := by simpa using h3
        simp [Instr.lookup, run_underlying Tryz.underlying77, hget, hch, Instr.findKey, run_underlying Tryz.underlying37, Instr.findNow, Instr.sameNow, b1, b2, b3, h1, h2, h3]
end
end Go.Proofs.YtjpgjhjnneeliaaGreat.Ar
/-
  THE MACHINE WITH AN ARENA: Machine.begin, Machine.Move.
-/
namespace Go.Proofs.YtjpgjhjnneeliaaGreat.Ar
open Go.RowKit Mr Me Ma Wc Wm
def upd (g : Nat → Nat) (i n : Nat) : Nat → Nat := fun k => if k = i then n else g k
theorem upd_same (g : Nat → Nat) (i n : Nat) : upd g i n i = n := by simp [upd]
theorem upd_other (g : Nat → Nat) (i n j : Nat) (h : j ≠ i) : upd g i n j = g j := by simp [upd, h]
theorem thsA_new (pts : List At) (bc bt : Nat → Nat) (i : Nat) (t' : At) (a b : Nat) : (thsA pts bc bt).set i (t'.th a b) = thsA (pts.set i t') (upd bc i a) (upd bt i b) := by
  apply List.ext_getElem?
  intro j
  rw [List.getElem?_set, thsA_get, thsA_get, List.getElem?_set, thsA_length]
  by_cases hj : i = j
  · subst hj
    simp only [if_true, upd_same]
    split <;> simp
  · simp only [if_neg hj, upd_other _ _ _ _ (fun e : j = i => hj e.symm)]
section
variable {W : World} {U K : Nat → Prop} {f : Fx} {h : Wh} {P : Pa} {i : Nat} {t : At}
theorem OutA.begun {s2 : Ss} {vc' : Value} {N : Nat → Obj → Prop} {w2 : World} {P2 : Pa} {tk' : Kd × Pk} {bcn btn : Nat} (hR : RA W U K f h P) (hg : Goes W U { f.at h with vc := vc' } s2 (fun k o => snap W h.T k o ∨ N k o) w2)
    (e1 : s2.ths = thsA P2.pts (upd h.bc i bcn) (upd h.bt i btn)) (e2 : s2.n = P2.n) (e3 : s2.cls = P2.cls) (e4 : s2.shs = P2.shs) (e5 : s2.ws = P2.ws) (e6 : s2.lg = P2.lg) (e7 : s2.ah.length ≤ P2.lg.length) (c : Int) (hp : P2.pts = P.pts.set i ⟨some tk', true, c⟩) (hA : P2.A = P.A) (hm : P2.m = P.m) (hK : P2.K = P.K) (hI : Inv P2 P2.n)
    (hNl : ∀ k o, N k o → W.heap.size ≤ k) (hNk : ∀ k, own bcn btn (some tk') k → ∃ o, N k o) (hob : ∀ (w : World) (T' : Nat → Prop), (∀ k o, N k o → w.heap[k]? = some o) → (∀ k, own bcn btn (some tk') k → T' k) → Tob w T' f.ba i bcn btn (some tk')) :
    OutA W U K f P2 w2 := by
  obtain ⟨U', S, vl, va, ⟨hx, hmm⟩, g1, g2, g3⟩ := hg
  have sm : ∀ k, h.T k → w2.heap[k]? = W.heap[k]? ∧ k < w2.heap.size := fun k hk => by
    have q1 := Array.getElem?_eq_getElem (hR.tl k hk)
    have q2 := (hx k _ (.inl ⟨hk, q1⟩)).1
    exact ⟨q2.trans q1.symm, (Array.getElem?_eq_some_iff.1 q2).1⟩
  have hN2 : ∀ k o, N k o → w2.heap[k]? = some o := fun k o ho => (hx k o (.inr ho)).1
  have ownl : ∀ k, own bcn btn (some tk') k → k < w2.heap.size ∧ W.heap.size ≤ k := fun k hk => by
    obtain ⟨o, ho⟩ := hNk k hk
    exact ⟨(Array.getElem?_eq_some_iff.1 (hN2 k o ho)).1, hNl k o ho⟩
  have kk : ∀ k, K k → w2.heap[k]? = W.heap[k]? := fun k hk => g3.block k (hR.ku k hk).2 (hR.ku k hk).1
  have hss : s2 = ({ S := S, vl := vl, va := va, vc := vc', vs := h.vs, mv := s2.mv, ah := s2.ah, T := fun k => h.T k ∨ own bcn btn (some tk') k, vsl := h.vsl, bc := upd h.bc i bcn, bt := upd h.bt i btn } : Wh).ss P2 := by
    obtain ⟨a1, a2, a3, a4, a5, a6, a7, a8⟩ := s2
    simp only at e1 e2 e3 e4 e5 e6
    subst e1 e2 e3 e4 e5 e6
    rfl
  refine ⟨U', { S := S, vl := vl, va := va, vc := vc', vs := h.vs, mv := s2.mv, ah := s2.ah, T := fun k => h.T k ∨ own bcn btn (some tk') k, vsl := h.vsl, bc := upd h.bc i bcn, bt := upd h.bt i btn }, ⟨?_, fun k hk => hk.elim (fun h => (sm k h).2) (fun h => (ownl k h).1), ?_, ?_, ?_, e7, hR.kt.kept kk, ?_, hI, by rw [hm]; exact hR.m, by rw [hK]; exact hR.ck, by rw [hK]; exact hR.K, hR.vk⟩, g1, g2, g3⟩
  · rw [← hss]
    refine ⟨fun k o ho => hx k o ?_, hmm⟩
    rcases ho.1 with hk | hk
    · exact .inl ⟨hk, ((sm k hk).1).symm.trans ho.2⟩
    · obtain ⟨o', ho'⟩ := hNk k hk
      have := (hN2 k o' ho').symm.trans ho.2
      cases this
      exact .inr ho'
  · rw [hA]
    exact hR.ar.kept (fun k hk => (sm k hk).1) (fun _ h => .inl h)
  · intro j u hj
    rw [hp] at hj
    rcases pts_set hj with ⟨rfl, rfl⟩ | ⟨hj1, hj2⟩
    · simp only [upd_same]
      exact hob w2 _ hN2 (fun k hk => .inr hk)
    · simp only [upd_other _ _ _ _ hj1]
      exact (hR.tob j u hj2).kept (fun k hk _ => (sm k hk).1) (fun _ h => .inl h)
  · intro a b u v k ha hb hu hv
    rw [hp] at ha hb
    have low : ∀ (j : Nat) (x : At), P.pts[j]? = some x → own (h.bc j) (h.bt j) x.tk k → k < W.heap.size := fun j x hj ho => hR.tl k ((hR.tob j x hj).obj ho).1
    rcases pts_set ha with ⟨rfl, rfl⟩ | ⟨ha1, ha2⟩
    · rcases pts_set hb with ⟨rfl, rfl⟩ | ⟨hb1, hb2⟩
      · rfl
      · simp only [upd_same] at hu
        simp only [upd_other _ _ _ _ hb1] at hv
        have := low b v hb2 hv
        have := (ownl k hu).2
        omega
    · simp only [upd_other _ _ _ _ ha1] at hu
      rcases pts_set hb with ⟨rfl, rfl⟩ | ⟨hb1, hb2⟩
      · simp only [upd_same] at hv
        have := low a u ha2 hu
        have := (ownl k hv).2
        omega
      · simp only [upd_other _ _ _ _ hb1] at hv
        exact hR.dj a b u v k ha2 hb2 hu hv
  · intro k hk
    refine ⟨fun hu => ?_, Nat.lt_of_lt_of_le (hR.ku k hk).2 g3.size⟩
    rcases g2 k hu with hu | hu
    · exact (hR.ku k hk).1 hu
    · have := (hR.ku k hk).2; omega
/-- Nothing has turned. -/
theorem OutA.same (hR : RA W U K f h P) {w : World} (hB : Below W.heap.size W w) : OutA W U K f P w :=
  ⟨U, h, ⟨⟨fun k o ho => by
      have hl := hR.tl k ho.1
      have := hR.mch.1 k o ⟨ho.1, (hB.block k hl).symm.trans ho.2⟩
      exact ⟨ho.2, this.2⟩, hR.mch.2.below hB⟩, fun k hk => Nat.lt_of_lt_of_le (hR.tl k hk) hB.size, hR.ar.kept (fun k hk => hB.block k (hR.tl k hk)) (fun _ h => h), fun i t ht => (hR.tob i t ht).kept (fun k hk _ => hB.block k (hR.tl k hk)) (fun _ h => h), hR.dj, hR.ah, hR.kt.kept (fun k hk => hB.block k (hR.ku k hk).2), fun k hk => ⟨(hR.ku k hk).1, Nat.lt_of_lt_of_le (hR.ku k hk).2 hB.size⟩, hR.inv, hR.m, hR.ck, hR.K, hR.vk⟩, fun _ h => h, fun _ h => .inl h, Fr.of_below hB⟩
end
end Go.Proofs.YtjpgjhjnneeliaaGreat.Ar
