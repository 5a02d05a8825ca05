import Derived.Test.YtkimmfdicohoiaaGreatJ18
import Derived.LoopN
/-
  TAKING: a turn's access, a Taking's cells.
-/
namespace Go.Proofs.YtkimmfdicohoiaaGreat.Ar
open Go.RowKit Mr Me Ma Wc Wm
theorem access_any (W : World) (N : Nat) (l : Int) (h1 : W.cell? ⟨N, 1, none⟩ = some (.int .i64 l)) (h2 : W.frozen? ⟨N, 1, none⟩ = false) (hl : -100 ≤ l ∧ l ≤ 100) :
    Calls Tryz.prog 100 #[.pointer (some ⟨N, 0, none⟩)] W fun e w' => e = .returned (.bool (decide (1 ≤ l))) ∧ w' = W.setCell ⟨N, 1, none⟩ (.int .i64 (l - 1)) := by
  have hw : wrap64 (l - 1) = l - 1 := by unfold wrap64; omega
  have hi : IntKind.i64.wrap (l - 1) = l - 1 := i64w _ (by omega) (by omega)
  go_enter Tryz.func100, Tryz.ntmps100
  go_wp2
  go_ret
  exact ⟨rfl, rfl⟩
theorem access_yes (W : World) (N : Nat) (h1 : W.cell? ⟨N, 1, none⟩ = some (.int .i64 1)) (h2 : W.frozen? ⟨N, 1, none⟩ = false) :
    Calls Tryz.prog 100 #[.pointer (some ⟨N, 0, none⟩)] W fun e w' => e = .returned (.bool true) ∧ w' = W.setCell ⟨N, 1, none⟩ (.int .i64 0) := access_any W N 1 h1 h2 (by decide)
theorem access_no (W : World) (N : Nat) (h1 : W.cell? ⟨N, 1, none⟩ = some (.int .i64 0)) (h2 : W.frozen? ⟨N, 1, none⟩ = false) :
    Calls Tryz.prog 100 #[.pointer (some ⟨N, 0, none⟩)] W fun e w' => e = .returned (.bool false) ∧ w' = W.setCell ⟨N, 1, none⟩ (.int .i64 (-1)) := access_any W N 0 h1 h2 (by decide)
/-- A Taking's cells. -/
def tkA (q : Pl) (k : Pk) : Array Value := #[.pointer (some ⟨q.ba, 0, none⟩), .int .i64 (q.i : Int), .int .i64 k.sl, .int .i64 k.nx, .int .u64 k.hd, .int .u64 k.bh, .bool k.tk]
section
variable {q : Pl} {N : Nat} {T : Nat → Prop} {vs : List Value} {sp : Bool} {s : Ss} {A : Ao} {k : Pk} {xs : Array Value} {l : Int} {W w : World}
theorem In.acc1 (h : In q N T vs sp s A xs 1 W) : Calls Tryz.prog 100 #[.pointer (some ⟨N, 0, none⟩)] W fun e w' => e = .returned (.bool true) ∧ In q N T vs sp s A xs 0 w' := by
  refine (access_yes W N h.x1 (h.xz 1)).mono ?_
  rintro e w' ⟨rfl, rfl⟩
  exact ⟨rfl, h.setN 0⟩
theorem In.acc0 (h : In q N T vs sp s A xs 0 W) : Calls Tryz.prog 100 #[.pointer (some ⟨N, 0, none⟩)] W fun e w' => e = .returned (.bool false) ∧ In q N T vs sp s A xs (-1) w' := by
  refine (access_no W N h.x1 (h.xz 1)).mono ?_
  rintro e w' ⟨rfl, rfl⟩
  exact ⟨rfl, h.setN (-1)⟩
/-- The cells of a Taking, all at once. -/
theorem In.tk (h : In q N T vs sp s A (tkA q k) l W) : (W.cell? ⟨q.bt, 0, none⟩ = some (.pointer (some ⟨q.ba, 0, none⟩)) ∧ W.cell? ⟨q.bt, 1, none⟩ = some (.int .i64 (q.i : Int)) ∧ W.cell? ⟨q.bt, 2, none⟩ = some (.int .i64 k.sl) ∧ W.cell? ⟨q.bt, 3, none⟩ = some (.int .i64 k.nx) ∧ W.cell? ⟨q.bt, 4, none⟩ = some (.int .u64 k.hd) ∧ W.cell? ⟨q.bt, 5, none⟩ = some (.int .u64 k.bh) ∧ W.cell? ⟨q.bt, 6, none⟩ = some (.bool k.tk)) ∧ (∀ j, W.frozen? ⟨q.bt, j, none⟩ = false) ∧ W.cell? ⟨N, 0, none⟩ = some (.pointer (some ⟨q.p.bd, 0, none⟩)) ∧ W.cell? ⟨N, 1, none⟩ = some (.int .i64 l) ∧ W.frozen? ⟨N, 1, none⟩ = false :=
  ⟨⟨h.at 0 _ rfl, h.at 1 _ rfl, h.at 2 _ rfl, h.at 3 _ rfl, h.at 4 _ rfl, h.at 5 _ rfl, h.at 6 _ rfl⟩, h.z, h.x0, h.x1, h.xz 1⟩
end
end Go.Proofs.YtkimmfdicohoiaaGreat.Ar
/-
  PUTTING: the cells of a Giving or a Flushing.
-/
namespace Go.Proofs.YtkimmfdicohoiaaGreat.Ar
open Go.RowKit Mr Me Ma Wc Wm
/-- Their cells: dn is where it goes on behind a slot that it has put into the free list. -/
def gvA (q : Pl) (k : Pk) (dn : Int) : Array Value := #[.pointer (some ⟨q.ba, 0, none⟩), .int .i64 (q.i : Int), .int .i64 k.sl, .int .i64 k.nx, .int .u64 k.hd, .int .i64 dn]
theorem In.gv {q : Pl} {N : Nat} {T : Nat → Prop} {vs : List Value} {sp : Bool} {s : Ss} {A : Ao} {k : Pk} {dn l : Int} {W : World} (h : In q N T vs sp s A (gvA q k dn) l W) : (W.cell? ⟨q.bt, 0, none⟩ = some (.pointer (some ⟨q.ba, 0, none⟩)) ∧ W.cell? ⟨q.bt, 1, none⟩ = some (.int .i64 (q.i : Int)) ∧ W.cell? ⟨q.bt, 2, none⟩ = some (.int .i64 k.sl) ∧ W.cell? ⟨q.bt, 3, none⟩ = some (.int .i64 k.nx) ∧ W.cell? ⟨q.bt, 4, none⟩ = some (.int .u64 k.hd) ∧ W.cell? ⟨q.bt, 5, none⟩ = some (.int .i64 dn)) ∧ (∀ j, W.frozen? ⟨q.bt, j, none⟩ = false) ∧ W.cell? ⟨N, 0, none⟩ = some (.pointer (some ⟨q.p.bd, 0, none⟩)) ∧ W.cell? ⟨N, 1, none⟩ = some (.int .i64 l) ∧ W.frozen? ⟨N, 1, none⟩ = false :=
  ⟨⟨h.at 0 _ rfl, h.at 1 _ rfl, h.at 2 _ rfl, h.at 3 _ rfl, h.at 4 _ rfl, h.at 5 _ rfl⟩, h.z, h.x0, h.x1, h.xz 1⟩
end Go.Proofs.YtkimmfdicohoiaaGreat.Ar
/-
  THE ARENA's tasks: Ready and Step of Taking, Giving, Flushing, takeCall, by what their runs do.
-/
namespace Go.Proofs.YtkimmfdicohoiaaGreat.Ar
open Go.RowKit Mr Me Ma Wc Wm
theorem readying_any (bd : Nat) (W : World) : Calls Tryz.prog 72 #[.pointer (some ⟨bd, 0, none⟩)] W fun e w' => e = .returned (.agg #[.pointer (some ⟨bd, 0, none⟩), .int .i64 0]) ∧ Below W.heap.size W w' := by
  go_enter Tryz.func72, Tryz.ntmps72
  go_wp2
  refine bodyPost_ret (v := .agg #[.pointer (some ⟨bd, 0, none⟩), .int .i64 0]) (by simp [results, Tryz.results72, go_sem]) rfl ⟨rfl, ?_⟩
  exact (Below.refl _ _).alloc (Nat.le_refl _) _
theorem stepping_any (bd : Nat) (W : World) : Calls Tryz.prog 73 #[.pointer (some ⟨bd, 0, none⟩)] W fun e w' => e = .returned (.agg #[.pointer (some ⟨bd, 0, none⟩), .int .i64 1]) ∧ Below W.heap.size W w' := by
  go_enter Tryz.func73, Tryz.ntmps73
  go_wp2
  refine bodyPost_ret (v := .agg #[.pointer (some ⟨bd, 0, none⟩), .int .i64 1]) (by simp [results, Tryz.results73, go_sem]) rfl ⟨rfl, ?_⟩
  exact (Below.refl _ _).alloc (Nat.le_refl _) _
section
variable {W : World} {bt bd bc : Nat} {r : Bool} {Q Q1 : World → Prop}
theorem taking_ready (C : ∀ w, Below W.heap.size W w → Calls Tryz.prog 71 #[.pointer (some ⟨bt, 0, none⟩), .agg #[.pointer (some ⟨bd, 0, none⟩), .int .i64 0]] w fun e w' => e = .returned (.bool r) ∧ Q w') :
    Calls Tryz.prog 30 #[.pointer (some ⟨bt, 0, none⟩), .pointer (some ⟨bd, 0, none⟩)] W fun e w' => e = .returned (.bool r) ∧ Q w' := by
  have R := readying_any bd W
  replace C := Mr.hid C
  go_enter Tryz.func30, Tryz.ntmps30
  go_wp2_with (first | (go_at_call 72; refine R.mono ?_; clear R; rintro e w1 ⟨rfl, hB⟩; have C1 := C.out w1 hB; clear C) | (go_at_call 71; refine C1.mono ?_; clear C1; rintro e w2 ⟨rfl, h2⟩))
  go_ret
  exact ⟨rfl, h2⟩
theorem taking_step (C : ∀ w, Below W.heap.size W w → Calls Tryz.prog 71 #[.pointer (some ⟨bt, 0, none⟩), .agg #[.pointer (some ⟨bd, 0, none⟩), .int .i64 1]] w fun e w' => e = .returned (.bool r) ∧ Q w') :
    Calls Tryz.prog 31 #[.pointer (some ⟨bt, 0, none⟩), .pointer (some ⟨bd, 0, none⟩)] W fun e w' => e = .returned (.bool r) ∧ Q w' := by
  have R := stepping_any bd W
  replace C := Mr.hid C
  go_enter Tryz.func31, Tryz.ntmps31
  go_wp2_with (first | (go_at_call 73; refine R.mono ?_; clear R; rintro e w1 ⟨rfl, hB⟩; have C1 := C.out w1 hB; clear C) | (go_at_call 71; refine C1.mono ?_; clear C1; rintro e w2 ⟨rfl, h2⟩))
  go_ret
  exact ⟨rfl, h2⟩
theorem giving_ready (C : ∀ w, Below W.heap.size W w → Calls Tryz.prog 74 #[.pointer (some ⟨bt, 0, none⟩), .agg #[.pointer (some ⟨bd, 0, none⟩), .int .i64 0]] w fun e w' => e = .returned (.bool r) ∧ Q w') :
    Calls Tryz.prog 33 #[.pointer (some ⟨bt, 0, none⟩), .pointer (some ⟨bd, 0, none⟩)] W fun e w' => e = .returned (.bool r) ∧ Q w' := by
  have R := readying_any bd W.drew
  replace C := Mr.hid C
  replace R := Mr.hid R
  go_enter Tryz.func33, Tryz.ntmps33
  go_wp2
  go_region_held3 (fun _ => True) (trivial)
    (first | (go_at_call 72; refine R.out.mono ?_; clear R; rintro e w1 ⟨rfl, hB⟩; have C1 := C.out w1 ((Below.refl _ _).drew.trans (hB.mono (by simp))); replace C1 := Mr.hid C1) | (go_at_call 74; refine C1.out.mono ?_; clear C1; rintro e w2 ⟨rfl, h2⟩))
  go_wp2
  go_ret
  exact ⟨rfl, h2⟩
theorem giving_step (C : ∀ w, Below W.heap.size W w → Calls Tryz.prog 74 #[.pointer (some ⟨bt, 0, none⟩), .agg #[.pointer (some ⟨bd, 0, none⟩), .int .i64 1]] w fun e w' => e = .returned (.bool r) ∧ Q w') :
    Calls Tryz.prog 34 #[.pointer (some ⟨bt, 0, none⟩), .pointer (some ⟨bd, 0, none⟩)] W fun e w' => e = .returned (.bool r) ∧ Q w' := by
  have R := stepping_any bd W.drew
  replace C := Mr.hid C
  replace R := Mr.hid R
  go_enter Tryz.func34, Tryz.ntmps34
  go_wp2
  go_region_held3 (fun _ => True) (trivial)
    (first | (go_at_call 73; refine R.out.mono ?_; clear R; rintro e w1 ⟨rfl, hB⟩; have C1 := C.out w1 ((Below.refl _ _).drew.trans (hB.mono (by simp))); replace C1 := Mr.hid C1) | (go_at_call 74; refine C1.out.mono ?_; clear C1; rintro e w2 ⟨rfl, h2⟩))
  go_wp2
  go_ret
  exact ⟨rfl, h2⟩
theorem flushing_ready (C : ∀ w, Below W.heap.size W w → Calls Tryz.prog 74 #[.pointer (some ⟨bt, 0, none⟩), .agg #[.pointer (some ⟨bd, 0, none⟩), .int .i64 0]] w fun e w' => e = .returned (.bool r) ∧ Q w') :
    Calls Tryz.prog 35 #[.pointer (some ⟨bt, 0, none⟩), .pointer (some ⟨bd, 0, none⟩)] W fun e w' => e = .returned (.bool r) ∧ Q w' := by
  have R := readying_any bd W.drew
  replace C := Mr.hid C
  replace R := Mr.hid R
  go_enter Tryz.func35, Tryz.ntmps35
  go_wp2
  go_region_held3 (fun _ => True) (trivial)
    (first | (go_at_call 72; refine R.out.mono ?_; clear R; rintro e w1 ⟨rfl, hB⟩; have C1 := C.out w1 ((Below.refl _ _).drew.trans (hB.mono (by simp))); replace C1 := Mr.hid C1) | (go_at_call 74; refine C1.out.mono ?_; clear C1; rintro e w2 ⟨rfl, h2⟩))
  go_wp2
  go_ret
  exact ⟨rfl, h2⟩
theorem flushing_step (C : ∀ w, Below W.heap.size W w → Calls Tryz.prog 74 #[.pointer (some ⟨bt, 0, none⟩), .agg #[.pointer (some ⟨bd, 0, none⟩), .int .i64 1]] w fun e w' => e = .returned (.bool r) ∧ Q w') :
    Calls Tryz.prog 36 #[.pointer (some ⟨bt, 0, none⟩), .pointer (some ⟨bd, 0, none⟩)] W fun e w' => e = .returned (.bool r) ∧ Q w' := by
  have R := stepping_any bd W.drew
  replace C := Mr.hid C
  replace R := Mr.hid R
  go_enter Tryz.func36, Tryz.ntmps36
  go_wp2
  go_region_held3 (fun _ => True) (trivial)
    (first | (go_at_call 73; refine R.out.mono ?_; clear R; rintro e w1 ⟨rfl, hB⟩; have C1 := C.out w1 ((Below.refl _ _).drew.trans (hB.mono (by simp))); replace C1 := Mr.hid C1) | (go_at_call 74; refine C1.out.mono ?_; clear C1; rintro e w2 ⟨rfl, h2⟩))
  go_wp2
  go_ret
  exact ⟨rfl, h2⟩
theorem call_ready (c0 : W.cell? ⟨bc, 0, none⟩ = some (.pointer (some ⟨bt, 0, none⟩))) (C : Calls Tryz.prog 30 #[.pointer (some ⟨bt, 0, none⟩), .pointer (some ⟨bd, 0, none⟩)] W fun e w' => e = .returned (.bool r) ∧ Q1 w')
    (TL : ∀ w1, Q1 w1 → Calls Tryz.prog 168 #[.pointer (some ⟨bc, 0, none⟩), .pointer (some ⟨bd, 0, none⟩), .bool r] w1 fun e w' => e = .returned (.bool r) ∧ Q w') :
    Calls Tryz.prog 166 #[.pointer (some ⟨bc, 0, none⟩), .pointer (some ⟨bd, 0, none⟩)] W fun e w' => e = .returned (.bool r) ∧ Q w' := by
  replace TL := Mr.hid TL
  replace C := Mr.hid C
  go_enter Tryz.func166, Tryz.ntmps166
  go_wp2_with (first | (go_at_call 30; refine C.out.mono ?_; clear C; rintro e w1 ⟨rfl, h1⟩; have T1 := TL.out w1 h1; clear TL h1) | (go_at_call 168; refine T1.mono ?_; clear T1; rintro e w2 ⟨rfl, h2⟩))
  go_ret
  exact ⟨rfl, h2⟩
theorem call_step (c0 : W.cell? ⟨bc, 0, none⟩ = some (.pointer (some ⟨bt, 0, none⟩))) (C : Calls Tryz.prog 31 #[.pointer (some ⟨bt, 0, none⟩), .pointer (some ⟨bd, 0, none⟩)] W fun e w' => e = .returned (.bool r) ∧ Q1 w')
    (TL : ∀ w1, Q1 w1 → Calls Tryz.prog 168 #[.pointer (some ⟨bc, 0, none⟩), .pointer (some ⟨bd, 0, none⟩), .bool r] w1 fun e w' => e = .returned (.bool r) ∧ Q w') :
    Calls Tryz.prog 167 #[.pointer (some ⟨bc, 0, none⟩), .pointer (some ⟨bd, 0, none⟩)] W fun e w' => e = .returned (.bool r) ∧ Q w' := by
  replace TL := Mr.hid TL
  replace C := Mr.hid C
  go_enter Tryz.func167, Tryz.ntmps167
  go_wp2_with (first | (go_at_call 31; refine C.out.mono ?_; clear C; rintro e w1 ⟨rfl, h1⟩; have T1 := TL.out w1 h1; clear TL h1) | (go_at_call 168; refine T1.mono ?_; clear T1; rintro e w2 ⟨rfl, h2⟩))
  go_ret
  exact ⟨rfl, h2⟩
theorem tell_no (W : World) (a b : Value) : Calls Tryz.prog 168 #[a, b, .bool false] W fun e w' => e = .returned (.bool false) ∧ w' = W := by
  go_enter Tryz.func168, Tryz.ntmps168
  go_wp2
  go_ret
  exact ⟨rfl, rfl⟩
theorem slot_none (h : W.cell? ⟨bt, 6, none⟩ = some (.bool false)) : Calls Tryz.prog 32 #[.pointer (some ⟨bt, 0, none⟩)] W fun e w' => e = .returned (.int .i64 (-1)) ∧ w' = W := by
  go_enter Tryz.func32, Tryz.ntmps32
  go_wp2
  go_ret
  exact ⟨rfl, rfl⟩
theorem slot_some {x : Int} (h : W.cell? ⟨bt, 6, none⟩ = some (.bool true)) (h2 : W.cell? ⟨bt, 2, none⟩ = some (.int .i64 x)) : Calls Tryz.prog 32 #[.pointer (some ⟨bt, 0, none⟩)] W fun e w' => e = .returned (.int .i64 x) ∧ w' = W := by
  go_enter Tryz.func32, Tryz.ntmps32
  go_wp2
  go_ret
  exact ⟨rfl, rfl⟩
theorem tell_full (c0 : W.cell? ⟨bc, 0, none⟩ = some (.pointer (some ⟨bt, 0, none⟩))) (c6 : W.cell? ⟨bt, 6, none⟩ = some (.bool false)) (C : Calls Tryz.prog 169 #[.pointer (some ⟨bd, 0, none⟩), .agg #[.int .i64 4, .int .i64 0]] W fun e w' => e = .returned (.tuple #[]) ∧ Q w') :
    Calls Tryz.prog 168 #[.pointer (some ⟨bc, 0, none⟩), .pointer (some ⟨bd, 0, none⟩), .bool true] W fun e w' => e = .returned (.bool true) ∧ Q w' := by
  have SL := slot_none c6
  replace C := Mr.hid C
  replace SL := Mr.hid SL
  go_enter Tryz.func168, Tryz.ntmps168
  go_wp2_with (first | (go_at_call 32; refine SL.out.mono ?_; rintro e w' ⟨rfl, hw⟩; obtain rfl := hw.symm) | (go_at_call 169; refine C.out.mono ?_; clear C; rintro e w2 ⟨rfl, h2⟩))
  go_ret
  exact ⟨rfl, h2⟩
theorem tell_slot {x : Int} (hx : x ≠ -1) (c0 : W.cell? ⟨bc, 0, none⟩ = some (.pointer (some ⟨bt, 0, none⟩))) (c6 : W.cell? ⟨bt, 6, none⟩ = some (.bool true)) (c2 : W.cell? ⟨bt, 2, none⟩ = some (.int .i64 x)) (C : Calls Tryz.prog 169 #[.pointer (some ⟨bd, 0, none⟩), .agg #[.int .i64 2, .int .i64 x]] W fun e w' => e = .returned (.tuple #[]) ∧ Q w') :
    Calls Tryz.prog 168 #[.pointer (some ⟨bc, 0, none⟩), .pointer (some ⟨bd, 0, none⟩), .bool true] W fun e w' => e = .returned (.bool true) ∧ Q w' := by
  have SL := slot_some c6 c2
  have nx : (x == -1) = false := by simpa using hx
  replace C := Mr.hid C
  replace SL := Mr.hid SL
  go_enter Tryz.func168, Tryz.ntmps168
  go_wp2_with (first | (go_at_call 32; refine SL.out.mono ?_; rintro e w' ⟨rfl, hw⟩; obtain rfl := hw.symm) | (go_at_call 169; refine C.out.mono ?_; clear C; rintro e w2 ⟨rfl, h2⟩))
  go_ret
  exact ⟨rfl, h2⟩
end
section
variable {q : Pl} {sp : Bool} {s : Ss} {A : Ao} {xs : Array Value} {W w : World}
theorem Rn.below (h : Rn q sp s A xs W) (hB : Below W.heap.size W w) : Rn q sp s A xs w := by
  obtain ⟨T, vs, h1, h2, h3, h4, h5, h6, h7, h8⟩ := h
  obtain ⟨e1, e2⟩ := h3.below hB
  exact ⟨T, vs, h1, h2, e1, h4.kept e2 (fun _ h => h), (e2 _ (h1 _ h6)).trans h5, h6, h7, fun j ys t hj hne ht hw => (e2 j (h1 j hj)).trans (h8 j ys t hj hne ht hw)⟩
theorem Rn.answer (h : Rn q sp s A xs W) (t : Th) (ht : s.ths[q.i]? = some t) (ak av : Int) :
    Calls Tryz.prog 169 #[.pointer (some ⟨q.p.bd, 0, none⟩), .agg #[.int .i64 ak, .int .i64 av]] W fun e w' => e = .returned (.tuple #[]) ∧ Rn q sp { s with ths := s.ths.set q.i { t with ak := ak, av := av } } A xs w' := by
  obtain ⟨T, vs, h1, h2, h3, h4, h5, h6, h7, h8⟩ := h
  refine (h3.answer t ht ak av).mono ?_
  rintro e w' ⟨rfl, e1, e2⟩
  exact ⟨rfl, T, vs, h1, h2, e1, h4.kept e2 (fun _ h => h), (e2 _ (h1 _ h6)).trans h5, h6, h7, fun j ys t hj hne ht hw => (e2 j (h1 j hj)).trans (h8 j ys t hj hne ht hw)⟩
theorem Rn.oth {j : Nat} {ys : Array Value} {t : TypeId} (h : Rn q sp s A xs W) (hj : q.T0 j) (hne : j ≠ q.bt) (ht : Oth t) (hw : q.WS.heap[j]? = some (.cells ys t (0, 0))) : W.heap[j]? = some (.cells ys t (0, 0)) := by
  obtain ⟨T, vs, h1, h2, h3, h4, h5, h6, h7, h8⟩ := h
  exact h8 j ys t hj hne ht hw
theorem Rn.at (h : Rn q sp s A xs W) (j : Nat) (u : Value) (hu : xs[j]? = some u) : W.cell? ⟨q.bt, j, none⟩ = some u := by
  obtain ⟨T, vs, h1, h2, h3, h4, h5, h6, h7, h8⟩ := h
  simp [World.cell?, h5, hu]
end
end Go.Proofs.YtkimmfdicohoiaaGreat.Ar
