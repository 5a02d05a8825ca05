import Derived.Test.YtjpgjhjnneeliaaGreatJ13
import Derived.Test.YtjpgjhjnneeliaaGreatJ07
/-
  PUTTING: the cells of a Giving or a Flushing.
-/
namespace Go.Proofs.YtjpgjhjnneeliaaGreat.Ar
open Go.RowKit Mr Me Ma Wc Wm
/-- Their cells: dn is where it goes on behind a slot that it has put into the free list. -/
def gvA (q : Pl) (k : Pk) (dn : Int) : Array Value := #[.pointer (some ⟨q.ba, 0, none⟩), .int .i64 (q.i : Int), .int .i64 k.sl, .int .i64 k.nx, .int .u64 k.hd, .int .i64 dn]
theorem In.gv {q : Pl} {N : Nat} {T : Nat → Prop} {vs : List Value} {sp : Bool} {s : Ss} {A : Ao} {k : Pk} {dn l : Int} {W : World} (h : In q N T vs sp s A (gvA q k dn) l W) : (W.cell? ⟨q.bt, 0, none⟩ = some (.pointer (some ⟨q.ba, 0, none⟩)) ∧ W.cell? ⟨q.bt, 1, none⟩ = some (.int .i64 (q.i : Int)) ∧ W.cell? ⟨q.bt, 2, none⟩ = some (.int .i64 k.sl) ∧ W.cell? ⟨q.bt, 3, none⟩ = some (.int .i64 k.nx) ∧ W.cell? ⟨q.bt, 4, none⟩ = some (.int .u64 k.hd) ∧ W.cell? ⟨q.bt, 5, none⟩ = some (.int .i64 dn)) ∧ (∀ j, W.frozen? ⟨q.bt, j, none⟩ = false) ∧ W.cell? ⟨N, 0, none⟩ = some (.pointer (some ⟨q.p.bd, 0, none⟩)) ∧ W.cell? ⟨N, 1, none⟩ = some (.int .i64 l) ∧ W.frozen? ⟨N, 1, none⟩ = false :=
  ⟨⟨h.at 0 _ rfl, h.at 1 _ rfl, h.at 2 _ rfl, h.at 3 _ rfl, h.at 4 _ rfl, h.at 5 _ rfl⟩, h.z, h.x0, h.x1, h.xz 1⟩
end Go.Proofs.YtjpgjhjnneeliaaGreat.Ar
/-
  THE ARENA's tasks: Ready and Step of Taking, Giving, Flushing, takeCall, by what their runs do.
-/
namespace Go.Proofs.YtjpgjhjnneeliaaGreat.Ar
open Go.RowKit Mr Me Ma Wc Wm
theorem readying_any (bd : Nat) (W : World) : Calls Tryz.prog 103 #[.pointer (some ⟨bd, 0, none⟩)] W fun e w' => e = .returned (.agg #[.pointer (some ⟨bd, 0, none⟩), .int .i64 0]) ∧ Below W.heap.size W w' := by
  go_enter Tryz.func103, Tryz.ntmps103
  go_wp2
  refine bodyPost_ret (v := .agg #[.pointer (some ⟨bd, 0, none⟩), .int .i64 0]) (by simp [results, Tryz.results103, go_sem]) rfl ⟨rfl, ?_⟩
  exact (Below.refl _ _).alloc (Nat.le_refl _) _
theorem stepping_any (bd : Nat) (W : World) : Calls Tryz.prog 104 #[.pointer (some ⟨bd, 0, none⟩)] W fun e w' => e = .returned (.agg #[.pointer (some ⟨bd, 0, none⟩), .int .i64 1]) ∧ Below W.heap.size W w' := by
  go_enter Tryz.func104, Tryz.ntmps104
  go_wp2
  refine bodyPost_ret (v := .agg #[.pointer (some ⟨bd, 0, none⟩), .int .i64 1]) (by simp [results, Tryz.results104, go_sem]) rfl ⟨rfl, ?_⟩
  exact (Below.refl _ _).alloc (Nat.le_refl _) _
section
variable {W : World} {bt bd bc : Nat} {r : Bool} {Q Q1 : World → Prop}
theorem taking_ready (C : ∀ w, Below W.heap.size W w → Calls Tryz.prog 102 #[.pointer (some ⟨bt, 0, none⟩), .agg #[.pointer (some ⟨bd, 0, none⟩), .int .i64 0]] w fun e w' => e = .returned (.bool r) ∧ Q w') :
    Calls Tryz.prog 99 #[.pointer (some ⟨bt, 0, none⟩), .pointer (some ⟨bd, 0, none⟩)] W fun e w' => e = .returned (.bool r) ∧ Q w' := by
  have R := readying_any bd W
  replace C := Mr.hid C
  go_enter Tryz.func99, Tryz.ntmps99
  go_wp2_with (first | (go_at_call 103; refine R.mono ?_; clear R; rintro e w1 ⟨rfl, hB⟩; have C1 := C.out w1 hB; clear C) | (go_at_call 102; refine C1.mono ?_; clear C1; rintro e w2 ⟨rfl, h2⟩))
  go_ret
  exact ⟨rfl, h2⟩
theorem taking_step (C : ∀ w, Below W.heap.size W w → Calls Tryz.prog 102 #[.pointer (some ⟨bt, 0, none⟩), .agg #[.pointer (some ⟨bd, 0, none⟩), .int .i64 1]] w fun e w' => e = .returned (.bool r) ∧ Q w') :
    Calls Tryz.prog 100 #[.pointer (some ⟨bt, 0, none⟩), .pointer (some ⟨bd, 0, none⟩)] W fun e w' => e = .returned (.bool r) ∧ Q w' := by
  have R := stepping_any bd W
  replace C := Mr.hid C
  go_enter Tryz.func100, Tryz.ntmps100
  go_wp2_with (first | (go_at_call 104; refine R.mono ?_; clear R; rintro e w1 ⟨rfl, hB⟩; have C1 := C.out w1 hB; clear C) | (go_at_call 102; refine C1.mono ?_; clear C1; rintro e w2 ⟨rfl, h2⟩))
  go_ret
  exact ⟨rfl, h2⟩
theorem giving_ready (C : ∀ w, Below W.heap.size W w → Calls Tryz.prog 137 #[.pointer (some ⟨bt, 0, none⟩), .agg #[.pointer (some ⟨bd, 0, none⟩), .int .i64 0]] w fun e w' => e = .returned (.bool r) ∧ Q w') :
    Calls Tryz.prog 135 #[.pointer (some ⟨bt, 0, none⟩), .pointer (some ⟨bd, 0, none⟩)] W fun e w' => e = .returned (.bool r) ∧ Q w' := by
  have R := readying_any bd W.drew
  replace C := Mr.hid C
  replace R := Mr.hid R
  go_enter Tryz.func135, Tryz.ntmps135
  go_wp2
  go_region_held3 (fun _ => True) (trivial)
    (first | (go_at_call 103; refine R.out.mono ?_; clear R; rintro e w1 ⟨rfl, hB⟩; have C1 := C.out w1 ((Below.refl _ _).drew.trans (hB.mono (by simp))); replace C1 := Mr.hid C1) | (go_at_call 137; refine C1.out.mono ?_; clear C1; rintro e w2 ⟨rfl, h2⟩))
  go_wp2
  go_ret
  exact ⟨rfl, h2⟩
theorem giving_step (C : ∀ w, Below W.heap.size W w → Calls Tryz.prog 137 #[.pointer (some ⟨bt, 0, none⟩), .agg #[.pointer (some ⟨bd, 0, none⟩), .int .i64 1]] w fun e w' => e = .returned (.bool r) ∧ Q w') :
    Calls Tryz.prog 136 #[.pointer (some ⟨bt, 0, none⟩), .pointer (some ⟨bd, 0, none⟩)] W fun e w' => e = .returned (.bool r) ∧ Q w' := by
  have R := stepping_any bd W.drew
  replace C := Mr.hid C
  replace R := Mr.hid R
  go_enter Tryz.func136, Tryz.ntmps136
  go_wp2
  go_region_held3 (fun _ => True) (trivial)
    (first | (go_at_call 104; refine R.out.mono ?_; clear R; rintro e w1 ⟨rfl, hB⟩; have C1 := C.out w1 ((Below.refl _ _).drew.trans (hB.mono (by simp))); replace C1 := Mr.hid C1) | (go_at_call 137; refine C1.out.mono ?_; clear C1; rintro e w2 ⟨rfl, h2⟩))
  go_wp2
  go_ret
  exact ⟨rfl, h2⟩
theorem flushing_ready (C : ∀ w, Below W.heap.size W w → Calls Tryz.prog 137 #[.pointer (some ⟨bt, 0, none⟩), .agg #[.pointer (some ⟨bd, 0, none⟩), .int .i64 0]] w fun e w' => e = .returned (.bool r) ∧ Q w') :
    Calls Tryz.prog 144 #[.pointer (some ⟨bt, 0, none⟩), .pointer (some ⟨bd, 0, none⟩)] W fun e w' => e = .returned (.bool r) ∧ Q w' := by
  have R := readying_any bd W.drew
  replace C := Mr.hid C
  replace R := Mr.hid R
  go_enter Tryz.func144, Tryz.ntmps144
  go_wp2
  go_region_held3 (fun _ => True) (trivial)
    (first | (go_at_call 103; refine R.out.mono ?_; clear R; rintro e w1 ⟨rfl, hB⟩; have C1 := C.out w1 ((Below.refl _ _).drew.trans (hB.mono (by simp))); replace C1 := Mr.hid C1) | (go_at_call 137; refine C1.out.mono ?_; clear C1; rintro e w2 ⟨rfl, h2⟩))
  go_wp2
  go_ret
  exact ⟨rfl, h2⟩
theorem flushing_step (C : ∀ w, Below W.heap.size W w → Calls Tryz.prog 137 #[.pointer (some ⟨bt, 0, none⟩), .agg #[.pointer (some ⟨bd, 0, none⟩), .int .i64 1]] w fun e w' => e = .returned (.bool r) ∧ Q w') :
    Calls Tryz.prog 145 #[.pointer (some ⟨bt, 0, none⟩), .pointer (some ⟨bd, 0, none⟩)] W fun e w' => e = .returned (.bool r) ∧ Q w' := by
  have R := stepping_any bd W.drew
  replace C := Mr.hid C
  replace R := Mr.hid R
  go_enter Tryz.func145, Tryz.ntmps145
  go_wp2
  go_region_held3 (fun _ => True) (trivial)
    (first | (go_at_call 104; refine R.out.mono ?_; clear R; rintro e w1 ⟨rfl, hB⟩; have C1 := C.out w1 ((Below.refl _ _).drew.trans (hB.mono (by simp))); replace C1 := Mr.hid C1) | (go_at_call 137; refine C1.out.mono ?_; clear C1; rintro e w2 ⟨rfl, h2⟩))
  go_wp2
  go_ret
  exact ⟨rfl, h2⟩
theorem call_ready (c0 : W.cell? ⟨bc, 0, none⟩ = some (.pointer (some ⟨bt, 0, none⟩))) (C : Calls Tryz.prog 99 #[.pointer (some ⟨bt, 0, none⟩), .pointer (some ⟨bd, 0, none⟩)] W fun e w' => e = .returned (.bool r) ∧ Q1 w')
    (TL : ∀ w1, Q1 w1 → Calls Tryz.prog 98 #[.pointer (some ⟨bc, 0, none⟩), .pointer (some ⟨bd, 0, none⟩), .bool r] w1 fun e w' => e = .returned (.bool r) ∧ Q w') :
    Calls Tryz.prog 95 #[.pointer (some ⟨bc, 0, none⟩), .pointer (some ⟨bd, 0, none⟩)] W fun e w' => e = .returned (.bool r) ∧ Q w' := by
  replace TL := Mr.hid TL
  replace C := Mr.hid C
  go_enter Tryz.func95, Tryz.ntmps95
  go_wp2_with (first | (go_at_call 99; refine C.out.mono ?_; clear C; rintro e w1 ⟨rfl, h1⟩; have T1 := TL.out w1 h1; clear TL h1) | (go_at_call 98; refine T1.mono ?_; clear T1; rintro e w2 ⟨rfl, h2⟩))
  go_ret
  exact ⟨rfl, h2⟩
theorem call_step (c0 : W.cell? ⟨bc, 0, none⟩ = some (.pointer (some ⟨bt, 0, none⟩))) (C : Calls Tryz.prog 100 #[.pointer (some ⟨bt, 0, none⟩), .pointer (some ⟨bd, 0, none⟩)] W fun e w' => e = .returned (.bool r) ∧ Q1 w')
    (TL : ∀ w1, Q1 w1 → Calls Tryz.prog 98 #[.pointer (some ⟨bc, 0, none⟩), .pointer (some ⟨bd, 0, none⟩), .bool r] w1 fun e w' => e = .returned (.bool r) ∧ Q w') :
    Calls Tryz.prog 97 #[.pointer (some ⟨bc, 0, none⟩), .pointer (some ⟨bd, 0, none⟩)] W fun e w' => e = .returned (.bool r) ∧ Q w' := by
  replace TL := Mr.hid TL
  replace C := Mr.hid C
  go_enter Tryz.func97, Tryz.ntmps97
  go_wp2_with (first | (go_at_call 100; refine C.out.mono ?_; clear C; rintro e w1 ⟨rfl, h1⟩; have T1 := TL.out w1 h1; clear TL h1) | (go_at_call 98; refine T1.mono ?_; clear T1; rintro e w2 ⟨rfl, h2⟩))
  go_ret
  exact ⟨rfl, h2⟩
theorem tell_no (W : World) (a b : Value) : Calls Tryz.prog 98 #[a, b, .bool false] W fun e w' => e = .returned (.bool false) ∧ w' = W := by
  go_enter Tryz.func98, Tryz.ntmps98
  go_wp2
  go_ret
  exact ⟨rfl, rfl⟩
theorem slot_none (h : W.cell? ⟨bt, 6, none⟩ = some (.bool false)) : Calls Tryz.prog 96 #[.pointer (some ⟨bt, 0, none⟩)] W fun e w' => e = .returned (.int .i64 (-1)) ∧ w' = W := by
  go_enter Tryz.func96, Tryz.ntmps96
  go_wp2
  go_ret
  exact ⟨rfl, rfl⟩
theorem slot_some {x : Int} (h : W.cell? ⟨bt, 6, none⟩ = some (.bool true)) (h2 : W.cell? ⟨bt, 2, none⟩ = some (.int .i64 x)) : Calls Tryz.prog 96 #[.pointer (some ⟨bt, 0, none⟩)] W fun e w' => e = .returned (.int .i64 x) ∧ w' = W := by
  go_enter Tryz.func96, Tryz.ntmps96
  go_wp2
  go_ret
  exact ⟨rfl, rfl⟩
theorem tell_full (c0 : W.cell? ⟨bc, 0, none⟩ = some (.pointer (some ⟨bt, 0, none⟩))) (c6 : W.cell? ⟨bt, 6, none⟩ = some (.bool false)) (C : Calls Tryz.prog 101 #[.pointer (some ⟨bd, 0, none⟩), .agg #[.int .i64 4, .int .i64 0]] W fun e w' => e = .returned (.tuple #[]) ∧ Q w') :
    Calls Tryz.prog 98 #[.pointer (some ⟨bc, 0, none⟩), .pointer (some ⟨bd, 0, none⟩), .bool true] W fun e w' => e = .returned (.bool true) ∧ Q w' := by
  have SL := slot_none c6
  replace C := Mr.hid C
  replace SL := Mr.hid SL
  go_enter Tryz.func98, Tryz.ntmps98
  go_wp2_with (first | (go_at_call 96; refine SL.out.mono ?_; rintro e w' ⟨rfl, hw⟩; obtain rfl := hw.symm) | (go_at_call 101; refine C.out.mono ?_; clear C; rintro e w2 ⟨rfl, h2⟩))
  go_ret
  exact ⟨rfl, h2⟩
theorem tell_slot {x : Int} (hx : x ≠ -1) (c0 : W.cell? ⟨bc, 0, none⟩ = some (.pointer (some ⟨bt, 0, none⟩))) (c6 : W.cell? ⟨bt, 6, none⟩ = some (.bool true)) (c2 : W.cell? ⟨bt, 2, none⟩ = some (.int .i64 x)) (C : Calls Tryz.prog 101 #[.pointer (some ⟨bd, 0, none⟩), .agg #[.int .i64 2, .int .i64 x]] W fun e w' => e = .returned (.tuple #[]) ∧ Q w') :
    Calls Tryz.prog 98 #[.pointer (some ⟨bc, 0, none⟩), .pointer (some ⟨bd, 0, none⟩), .bool true] W fun e w' => e = .returned (.bool true) ∧ Q w' := by
  have SL := slot_some c6 c2
  have nx : (x == -1) = false := by simpa using hx
  replace C := Mr.hid C
  replace SL := Mr.hid SL
  go_enter Tryz.func98, Tryz.ntmps98
  go_wp2_with (first | (go_at_call 96; refine SL.out.mono ?_; rintro e w' ⟨rfl, hw⟩; obtain rfl := hw.symm) | (go_at_call 101; refine C.out.mono ?_; clear C; rintro e w2 ⟨rfl, h2⟩))
  go_ret
  exact ⟨rfl, h2⟩
end
section
variable {q : Pl} {sp : Bool} {s : Ss} {A : Ao} {xs : Array Value} {W w : World}
theorem Rn.below (h : Rn q sp s A xs W) (hB : Below W.heap.size W w) : Rn q sp s A xs w := by
  obtain ⟨T, vs, h1, h2, h3, h4, h5, h6, h7, h8⟩ := h
  obtain ⟨e1, e2⟩ := h3.below hB
  exact ⟨T, vs, h1, h2, e1, h4.kept e2 (fun _ h => h), (e2 _ (h1 _ h6)).trans h5, h6, h7, fun j ys t hj hne ht hw => (e2 j (h1 j hj)).trans (h8 j ys t hj hne ht hw)⟩
theorem Rn.answer (h : Rn q sp s A xs W) (t : Th) (ht : s.ths[q.i]? = some t) (ak av : Int) :
    Calls Tryz.prog 101 #[.pointer (some ⟨q.p.bd, 0, none⟩), .agg #[.int .i64 ak, .int .i64 av]] W fun e w' => e = .returned (.tuple #[]) ∧ Rn q sp { s with ths := s.ths.set q.i { t with ak := ak, av := av } } A xs w' := by
  obtain ⟨T, vs, h1, h2, h3, h4, h5, h6, h7, h8⟩ := h
  refine (h3.answer t ht ak av).mono ?_
  rintro e w' ⟨rfl, e1, e2⟩
  exact ⟨rfl, T, vs, h1, h2, e1, h4.kept e2 (fun _ h => h), (e2 _ (h1 _ h6)).trans h5, h6, h7, fun j ys t hj hne ht hw => (e2 j (h1 j hj)).trans (h8 j ys t hj hne ht hw)⟩
theorem Rn.oth {j : Nat} {ys : Array Value} {t : TypeId} (h : Rn q sp s A xs W) (hj : q.T0 j) (hne : j ≠ q.bt) (ht : Oth t) (hw : q.WS.heap[j]? = some (.cells ys t (0, 0))) : W.heap[j]? = some (.cells ys t (0, 0)) := by
  obtain ⟨T, vs, h1, h2, h3, h4, h5, h6, h7, h8⟩ := h
  exact h8 j ys t hj hne ht hw
theorem Rn.at (h : Rn q sp s A xs W) (j : Nat) (u : Value) (hu : xs[j]? = some u) : W.cell? ⟨q.bt, j, none⟩ = some u := by
  obtain ⟨T, vs, h1, h2, h3, h4, h5, h6, h7, h8⟩ := h
  simp [World.cell?, h5, hu]
end
end Go.Proofs.YtjpgjhjnneeliaaGreat.Ar
/-
  WHAT HOLDS of an arena on the machine behind every move: nothing is lost, nothing is doubled; and where each thread stands.
-/
namespace Go.Proofs.YtjpgjhjnneeliaaGreat.Ar
open Ma Me
/-- The slots of l, one behind the other along f, from the link x on. -/
def Chn (f : Int → Int) : List Int → Int → Prop
  | [], x => x = 0
  | s :: l, x => x = s + 1 ∧ Chn f l (f s)
theorem Chn.congr {f g : Int → Int} : ∀ {l : List Int} {x : Int}, Chn f l x → (∀ s ∈ l, g s = f s) → Chn g l x
  | [], _, h, _ => h
  | s :: l, _, h, hg => ⟨h.1, by rw [hg s (by simp)]; exact Chn.congr h.2 (fun t ht => hg t (by simp [ht]))⟩
def sp (P : Pa) (s : Int) : Int := P.word (P.spare s)
def tag (P : Pa) : Int := P.word 0 / 4294967296
/-- Free, as it was once. -/
def Hd (P : Pa) (h : Int) : Prop := 0 ≤ h ∧ h ≤ 18446744073709551615 ∧ h % 4294967296 ≤ P.A.sl.length ∧ h / 4294967296 ≤ tag P
/-- A giver on its way. -/
def Gv (P : Pa) (k : Pk) : Prop := k.nx = 5 ∨ (k.nx = 7 ∧ Hd P k.hd) ∨ (k.nx = 8 ∧ Hd P k.hd ∧ sp P k.sl = firstOf k.hd + 1)
def Tok (P : Pa) (i : Nat) (fr : Bool) (kd : Kd) (k : Pk) : Prop := match kd with
  | .take => k.tk = false ∧ (if fr = true then k.nx = 1 else P.A.cache i = [] ∧ (k.nx = 5 ∨ ((k.nx = 6 ∨ k.nx = 8) ∧ P.A.has k.sl ∧ k.sl = firstOf k.hd ∧ Hd P k.hd ∧ (k.nx = 8 → (0 ≤ k.bh ∧ k.bh ≤ 18446744073709551615) ∧ (k.hd = P.word 0 → k.bh = sp P k.sl)))))
  | .give => P.A.has k.sl ∧ P.A.st k.sl = (2, (i : Int)) ∧ (if fr = true then k.nx = 2 else Gv P k)
  | .flush => if fr = true then k.nx = 3 else P.A.has k.sl ∧ (P.A.cache i).getLast? = some k.sl ∧ Gv P k
structure Inv (P : Pa) (b : Nat) : Prop where
  bd : b ≤ 65536
  lg : P.lg.length ≤ b
  cls : P.cls.length ≤ b
  shs : P.shs.length ≤ b
  m0 : 0 < P.m
  ns : P.A.sl.length ≤ 1024
  ml : P.m + P.A.sl.length ≤ P.ws.length
  kc : P.A.ca.length = P.pts.length
  wd : ∀ x ∈ P.ws, 0 ≤ x ∧ x ≤ 18446744073709551615
  w0 : P.word 0 % 4294967296 ≤ P.A.sl.length ∧ tag P ≤ b
  fl : ∃ l, Chn (sp P) l (P.word 0 % 4294967296) ∧ l.Nodup ∧ ∀ s, s ∈ l ↔ P.A.has s ∧ (P.A.st s).1 = 0
  ca : ∀ (i : Nat) (l : List Int), P.A.ca[i]? = some l → l.Nodup ∧ l.length ≤ P.K ∧ ∀ s ∈ l, P.A.has s ∧ P.A.st s = (1, (i : Int))
  cd : ∀ s, P.A.has s → (P.A.st s).1 = 1 → ∃ (i : Nat) (l : List Int), P.A.ca[i]? = some l ∧ s ∈ l
  th : ∀ (i : Nat) (t : At) (kd : Kd) (k : Pk), P.pts[i]? = some t → t.tk = some (kd, k) → Tok P i t.fr kd k
  cl : ∀ (i : Nat) (t : At), P.pts[i]? = some t → t.tk.isSome = true → ∃ c : Nat, t.call = c ∧ c < P.cls.length
/-- What thread i has made of P is nothing to the others. -/
structure Frm (P P' : Pa) (i : Nat) : Prop where
  ns : P'.A.sl.length = P.A.sl.length
  ca : ∀ j, j ≠ i → P'.A.ca[j]? = P.A.ca[j]?
  st : ∀ j : Nat, j ≠ i → ∀ x, P.A.has x → (P.A.st x = (2, (j : Int)) ∨ P.A.st x = (1, (j : Int))) → P'.A.st x = P.A.st x ∧ sp P' x = sp P x
  w0 : (P'.word 0 = P.word 0 ∧ ∀ x, P.A.has x → (P.A.st x).1 = 0 → sp P' x = sp P x) ∨ tag P < tag P'
section
variable {P P' : Pa} {b i : Nat}
theorem Frm.has (h : Frm P P' i) (x : Int) : P'.A.has x ↔ P.A.has x := by unfold Ao.has; rw [h.ns]
theorem Frm.tagle (h : Frm P P' i) : tag P ≤ tag P' := by
  rcases h.w0 with ⟨h, _⟩ | h
  · unfold tag; rw [h]; omega
  · omega
theorem Frm.hd (h : Frm P P' i) {x : Int} (hx : Hd P x) : Hd P' x := by
  have := h.tagle
  obtain ⟨h1, h2, h3, h4⟩ := hx
  exact ⟨h1, h2, by rw [h.ns]; exact h3, by omega⟩
theorem Frm.cache (h : Frm P P' i) {j : Nat} (hj : j ≠ i) : P'.A.cache j = P.A.cache j := by unfold Ao.cache; rw [h.ca j hj]
theorem Frm.gv (h : Frm P P' i) {k : Pk} (hs : sp P' k.sl = sp P k.sl) (hk : Gv P k) : Gv P' k := by
  rcases hk with hk | ⟨h1, h2⟩ | ⟨h1, h2, h3⟩
  · exact .inl hk
  · exact .inr (.inl ⟨h1, h.hd h2⟩)
  · exact .inr (.inr ⟨h1, h.hd h2, by rw [hs]; exact h3⟩)
/-- What Free names is in the free list. -/
theorem Inv.head (h : Inv P b) {s : Int} (hs : P.word 0 % 4294967296 = s + 1) (h0 : 0 ≤ s) : P.A.has s ∧ (P.A.st s).1 = 0 := by
  obtain ⟨l, h1, h2, h3⟩ := h.fl
  cases l with
  | nil => simp only [Chn] at h1; omega
  | cons a l =>
    obtain ⟨h4, h5⟩ := h1
    have : a = s := by omega
    subst this
    exact (h3 a).1 (by simp)
theorem firstOf_eq {h : Int} (hh : h % 4294967296 ≤ 1024) : firstOf h = h % 4294967296 - 1 := by unfold firstOf; rw [if_pos (by omega)]
theorem Frm.tok (h : Frm P P' i) (hI : Inv P b) {j : Nat} (hj : j ≠ i) {fr : Bool} {kd : Kd} {k : Pk} (hk : Tok P j fr kd k) : Tok P' j fr kd k := by
  cases kd with
  | take =>
    obtain ⟨h0, hk⟩ := hk
    refine ⟨h0, ?_⟩
    split
    · rename_i e; rw [if_pos e] at hk; exact hk
    · rename_i e
      rw [if_neg e] at hk
      obtain ⟨h1, hk⟩ := hk
      refine ⟨by rw [h.cache hj]; exact h1, ?_⟩
      rcases hk with hk | ⟨h2, h3, h4, h5, h6⟩
      · exact .inl hk
      · refine .inr ⟨h2, (h.has _).2 h3, h4, h.hd h5, fun h8 => ⟨(h6 h8).1, fun he => ?_⟩⟩
        rcases h.w0 with ⟨w1, w2⟩ | w
        · rw [w1] at he
          have hns := hI.ns
          have hw := hI.w0.1
          have e1 : P.word 0 % 4294967296 = k.sl + 1 := by
            have := firstOf_eq (h := P.word 0) (by omega)
            rw [h4, he, this]; omega
          obtain ⟨_, hz⟩ := hI.head e1 h3.1
          rw [w2 _ h3 hz]
          exact (h6 h8).2 he
        · have := h5.2.2.2
          have : k.hd / 4294967296 = tag P' := by rw [he]; rfl
          omega
  | give =>
    obtain ⟨h1, h2, h3⟩ := hk
    obtain ⟨s1, s2⟩ := h.st j hj k.sl h1 (.inl h2)
    refine ⟨(h.has _).2 h1, s1.trans h2, ?_⟩
    split
    · rename_i e; rw [if_pos e] at h3; exact h3
    · rename_i e; rw [if_neg e] at h3; exact h.gv s2 h3
  | flush =>
    simp only [Tok] at hk ⊢
    split
    · rename_i e; rw [if_pos e] at hk; exact hk
    · rename_i e
      rw [if_neg e] at hk
      obtain ⟨h1, h2, h3⟩ := hk
      have hst : P.A.st k.sl = (1, (j : Int)) := by
        cases hc : P.A.ca[j]? with
        | none => simp [Ao.cache, hc] at h2
        | some l =>
          simp only [Ao.cache, hc, Option.getD_some] at h2
          exact ((hI.ca j l hc).2.2 _ (List.mem_of_getLast? h2)).2
      obtain ⟨s1, s2⟩ := h.st j hj k.sl h1 (.inr hst)
      exact ⟨(h.has _).2 h1, by rw [h.cache hj]; exact h2, h.gv s2 h3⟩
end
end Go.Proofs.YtjpgjhjnneeliaaGreat.Ar
