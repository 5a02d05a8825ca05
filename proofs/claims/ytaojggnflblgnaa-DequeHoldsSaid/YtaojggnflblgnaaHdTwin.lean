/-
  DEQUE: a run in memory of its own (made by mk_hdtwin.py).
-/
import Derived.Test.YtaojggnflblgnaaHdSprP
import Derived.Test.YtaojggnflblgnaaCnFloat2
namespace Go.Proofs.Ytaojggnflblgnaa.Hd
open Go.RowKit Mr Md Cn
set_option linter.unusedVariables false
set_option linter.unusedSimpArgs false
set_option maxRecDepth 100000
theorem info_ca : ∃ i, Try.prog.info? 52 = some i ∧ i.zero = some (.agg #[.int .i64 0, .int .i64 0, .int .i64 0, .int .i64 0, .int .i64 0, .int .i64 0, .int .i64 0, .int .i64 0, .int .i64 0]) ∧ i.size = 9 ∧ i.bytes = 72 := Dq.info_of (by kernel_rfl)
theorem info_ac : ∃ i, Try.prog.info? 117 = some i ∧ i.zero = some (.agg #[.int .i64 0, .int .i64 0, .int .i64 0, .int .i64 0, .int .u64 0, .int .u64 0, .int .u64 0]) ∧ i.size = 7 ∧ i.bytes = 56 := Dq.info_of (by kernel_rfl)
theorem info_sh : ∃ i, Try.prog.info? 120 = some i ∧ i.zero = some (.agg #[.int .i64 0, .int .i64 0, .int .i64 0, .int .i64 0, .int .i64 0]) ∧ i.size = 5 ∧ i.bytes = 40 := Dq.info_of (by kernel_rfl)
/-- What may be copied. -/
structure Sr (w : World) (size : Nat) (a : Option Addr) (n : Nat) (xs : List Value) : Prop where
  len : xs.length = n * size
  nil : a = none → n = 0
  at_ : ∀ w', Below w.heap.size w w' → ∀ ad, a = some ad → ∀ j u, xs[j]? = some u → w'.cell? (ad.add j) = some u
  one : ∀ u ∈ xs, u.oneCell' = true
theorem Sr.of_sl {w : World} {T : Nat → Prop} {size n cap : Nat} {a : Option Addr} {xs : List Value} (h : Sl w T size (.slice a n cap) n xs) (h1 : ∀ u ∈ xs, u.oneCell' = true) : Sr w size a n xs := by
  by_cases h0 : n = 0
  · refine ⟨h.1, fun _ => h0, fun w' _ ad _ j u hu => ?_, h1⟩
    have := (List.getElem?_eq_some_iff.1 hu).1
    rw [h.1, h0] at this; omega
  · obtain ⟨b, o, cap', e, _, _, hl, hr⟩ := h.there (by omega)
    cases e
    refine ⟨h.1, fun e => (by cases e), fun w' hB ad e j u hu => ?_, h1⟩
    cases e
    rw [add1]; exact (hB.cell (p := ⟨b, o + j, none⟩) hl).trans (hr j u hu)
theorem Sr.below {w w' : World} {size n : Nat} {a : Option Addr} {xs : List Value} (h : Sr w size a n xs) (hB : Below w.heap.size w w') : Sr w' size a n xs :=
  ⟨h.len, h.nil, fun w2 h2 => h.at_ w2 (hB.trans (h2.mono hB.size)), h.one⟩
def wds (ws : List Int) : List Value := ws.map (Value.int .u64)
theorem Sr.of_wd {w : World} {a : Option Addr} {n : Nat} {ws : List Int} (h : Dq.WdAt w a n ws) : Sr w 1 a n (wds ws) := by
  refine ⟨by simp [wds, h.1], fun e => ?_, fun w' hB ad e j u hu => ?_, fun u hu => ?_⟩
  · rcases h.2 with hx | ⟨b, o, e', _⟩
    · rw [h.1, hx]; rfl
    · rw [e] at e'; cases e'
  · rcases h.2 with hx | ⟨b, o, e', hl, hc⟩
    · rw [hx] at hu; simp [wds] at hu
    · rw [e] at e'; cases e'
      rw [add1]
      simp only [wds, List.getElem?_map, Option.map_eq_some_iff] at hu
      obtain ⟨x, hx, rfl⟩ := hu
      exact (hB.cell (p := ⟨b, o + j, none⟩) hl).trans (hc j x hx)
  · simp only [wds, List.mem_map] at hu
    obtain ⟨x, _, rfl⟩ := hu
    rfl
theorem wd_of {w : World} {S : Nat → Prop} {a : Option Addr} {n c : Nat} {ws : List Int} (h : Own w S 72 1 (.slice a n c) n (wds ws)) : Dq.WdAt w a n ws := by
  have hl := h.1
  simp [wds] at hl
  by_cases h0 : n = 0
  · exact ⟨hl.symm, .inl (List.eq_nil_of_length_eq_zero (by omega))⟩
  · obtain ⟨b, o, cap', e, _, _, hlt, hr⟩ := h.sl.there (by omega)
    cases e
    exact ⟨hl.symm, .inr ⟨b, o, rfl, hlt, fun j x hx => hr j _ (by simp [wds, hx])⟩⟩
/-- What the operations of twin's region leave. -/
structure TwP (N : Nat) (n0 n1 n2 n3 : Nat) (xs0 xs1 xs2 xs3 : List Value) (i : Nat) (v : Value) (w : World) : Prop where
  r3 : i = 3 → ∃ b c, v = .slice b n0 c ∧ Own w (fun k => N ≤ k) 52 9 (.slice b n0 c) n0 xs0
  r7 : i = 7 → ∃ b c, v = .slice b n1 c ∧ Own w (fun k => N ≤ k) 117 7 (.slice b n1 c) n1 xs1
  r11 : i = 11 → ∃ b c, v = .slice b n2 c ∧ Own w (fun k => N ≤ k) 120 5 (.slice b n2 c) n2 xs2
  r15 : i = 15 → ∃ b c, v = .slice b n3 c ∧ Own w (fun k => N ≤ k) 72 1 (.slice b n3 c) n3 xs3
  e : i = 0 ∨ i = 4 ∨ i = 8 ∨ i = 12 → ∃ a, v = .slice a 0 0
theorem TwP.below {N n0 n1 n2 n3 : Nat} {xs0 xs1 xs2 xs3 : List Value} {i : Nat} {v : Value} {w w' : World} (h : TwP N n0 n1 n2 n3 xs0 xs1 xs2 xs3 i v w) (hB : Below w.heap.size w w') : TwP N n0 n1 n2 n3 xs0 xs1 xs2 xs3 i v w' := by
  refine ⟨fun e => ?_, fun e => ?_, fun e => ?_, fun e => ?_, h.e⟩
  · obtain ⟨b, c, h1, h2⟩ := h.r3 e; exact ⟨b, c, h1, h2.below hB⟩
  · obtain ⟨b, c, h1, h2⟩ := h.r7 e; exact ⟨b, c, h1, h2.below hB⟩
  · obtain ⟨b, c, h1, h2⟩ := h.r11 e; exact ⟨b, c, h1, h2.below hB⟩
  · obtain ⟨b, c, h1, h2⟩ := h.r15 e; exact ⟨b, c, h1, h2.below hB⟩
theorem TwP.mk0 {N n0 n1 n2 n3 : Nat} {xs0 xs1 xs2 xs3 : List Value} {i : Nat} {w : World} (hi : i = 0 ∨ i = 4 ∨ i = 8 ∨ i = 12) (a : Option Addr) : TwP N n0 n1 n2 n3 xs0 xs1 xs2 xs3 i (.slice a 0 0) w :=
  ⟨fun e => by omega, fun e => by omega, fun e => by omega, fun e => by omega, fun _ => ⟨a, rfl⟩⟩
theorem TwP.mk3 {N n0 n1 n2 n3 : Nat} {xs0 xs1 xs2 xs3 : List Value} {w : World} {b : Option Addr} {c : Nat} (h : Own w (fun k => N ≤ k) 52 9 (.slice b n0 c) n0 xs0) : TwP N n0 n1 n2 n3 xs0 xs1 xs2 xs3 3 (.slice b n0 c) w :=
  ⟨fun _ => ⟨b, c, rfl, h⟩, fun e => by omega, fun e => by omega, fun e => by omega, fun e => by omega⟩
theorem TwP.mk7 {N n0 n1 n2 n3 : Nat} {xs0 xs1 xs2 xs3 : List Value} {w : World} {b : Option Addr} {c : Nat} (h : Own w (fun k => N ≤ k) 117 7 (.slice b n1 c) n1 xs1) : TwP N n0 n1 n2 n3 xs0 xs1 xs2 xs3 7 (.slice b n1 c) w :=
  ⟨fun e => by omega, fun _ => ⟨b, c, rfl, h⟩, fun e => by omega, fun e => by omega, fun e => by omega⟩
theorem TwP.mk11 {N n0 n1 n2 n3 : Nat} {xs0 xs1 xs2 xs3 : List Value} {w : World} {b : Option Addr} {c : Nat} (h : Own w (fun k => N ≤ k) 120 5 (.slice b n2 c) n2 xs2) : TwP N n0 n1 n2 n3 xs0 xs1 xs2 xs3 11 (.slice b n2 c) w :=
  ⟨fun e => by omega, fun e => by omega, fun _ => ⟨b, c, rfl, h⟩, fun e => by omega, fun e => by omega⟩
theorem TwP.mk15 {N n0 n1 n2 n3 : Nat} {xs0 xs1 xs2 xs3 : List Value} {w : World} {b : Option Addr} {c : Nat} (h : Own w (fun k => N ≤ k) 72 1 (.slice b n3 c) n3 xs3) : TwP N n0 n1 n2 n3 xs0 xs1 xs2 xs3 15 (.slice b n3 c) w :=
  ⟨fun e => by omega, fun e => by omega, fun e => by omega, fun _ => ⟨b, c, rfl, h⟩, fun e => by omega⟩
set_option maxHeartbeats 32000000 in
theorem twin_raw (W : World) (a0 : Option Addr) (n0 c0 : Nat) (xs0 : List Value) (a1 : Option Addr) (n1 c1 : Nat) (xs1 : List Value) (a2 : Option Addr) (n2 c2 : Nat) (xs2 : List Value) (a3 : Option Addr) (n3 c3 : Nat) (xs3 : List Value)
    (h0 : Sr W 9 a0 n0 xs0) (z0 : n0 * 72 ≤ 140737488351232) (h1 : Sr W 7 a1 n1 xs1) (z1 : n1 * 56 ≤ 140737488351232) (h2 : Sr W 5 a2 n2 xs2) (z2 : n2 * 40 ≤ 140737488351232) (h3 : Sr W 1 a3 n3 xs3) (z3 : n3 * 8 ≤ 140737488351232) :
    Calls Try.prog 5 #[rnV (.slice a0 n0 c0) (.slice a1 n1 c1) (.slice a2 n2 c2) (.slice a3 n3 c3)] W fun e w' => ∃ b0 k0 b1 k1 b2 k2 b3 k3, e = .returned (rnV (.slice b0 n0 k0) (.slice b1 n1 k1) (.slice b2 n2 k2) (.slice b3 n3 k3)) ∧ Below W.heap.size W w' ∧ Own w' (fun k => W.heap.size ≤ k) 52 9 (.slice b0 n0 k0) n0 xs0 ∧ Own w' (fun k => W.heap.size ≤ k) 117 7 (.slice b1 n1 k1) n1 xs1 ∧ Own w' (fun k => W.heap.size ≤ k) 120 5 (.slice b2 n2 k2) n2 xs2 ∧ Own w' (fun k => W.heap.size ≤ k) 72 1 (.slice b3 n3 k3) n3 xs3 := by
  obtain ⟨ip, p1, p2, p3, p4⟩ := info_ca
  obtain ⟨iq, q1, q2, q3, q4⟩ := info_ac
  obtain ⟨ir, r1, r2, r3, r4⟩ := info_sh
  obtain ⟨it, t1, t2, t3, t4⟩ := Dq.info_w
  have H0 := Mr.hid h0
  have H1 := Mr.hid h1
  have H2 := Mr.hid h2
  have H3 := Mr.hid h3
  have hS0 : Hid (Below W.heap.size W ((W.alloc (.cells #[.slice a0 n0 c0, .slice a1 n1 c1, .slice a2 n2 c2, .slice a3 n3 c3] 29 (0, 0))).alloc (.cells #[.slice none 0 0, .slice none 0 0, .slice none 0 0, .slice none 0 0] 29 (0, 0))).drew ∧ ((W.alloc (.cells #[.slice a0 n0 c0, .slice a1 n1 c1, .slice a2 n2 c2, .slice a3 n3 c3] 29 (0, 0))).alloc (.cells #[.slice none 0 0, .slice none 0 0, .slice none 0 0, .slice none 0 0] 29 (0, 0))).drew.heap[W.heap.size]? = some (.cells #[.slice a0 n0 c0, .slice a1 n1 c1, .slice a2 n2 c2, .slice a3 n3 c3] 29 (0, 0))) := Mr.hid ⟨(((Below.refl _ _).alloc (Nat.le_refl _) _).alloc (by simp) _).drew, old_at (new_at W _ W.heap.size rfl) _⟩
  have hG0 : Hid (((W.alloc (.cells #[.slice a0 n0 c0, .slice a1 n1 c1, .slice a2 n2 c2, .slice a3 n3 c3] 29 (0, 0))).alloc (.cells #[.slice none 0 0, .slice none 0 0, .slice none 0 0, .slice none 0 0] 29 (0, 0))).drew.heap[W.heap.size + 1]? = some (.cells #[.slice none 0 0, .slice none 0 0, .slice none 0 0, .slice none 0 0] 29 (0, 0))) := Mr.hid (new_at _ _ (W.heap.size + 1) (by simp))
  have NN : Hid (∀ w : World, w.heap[W.heap.size + 1]? = some (.cells #[.slice none 0 0, .slice none 0 0, .slice none 0 0, .slice none 0 0] 29 (0, 0)) → W.heap.size + 2 ≤ w.heap.size) := Mr.hid (fun w h => by have := (Array.getElem?_eq_some_iff.1 h).1; omega)
  clear h0 h1 h2 h3
  unfold rnV
  go_enter Try.func5, Try.ntmps5
  go_upto_region 1 with fail
  refine wp_region_held_drew (S := fun w' => Below W.heap.size W w' ∧ w'.heap[W.heap.size]? = some (.cells #[.slice a0 n0 c0, .slice a1 n1 c1, .slice a2 n2 c2, .slice a3 n3 c3] 29 (0, 0))) (by kernel_rfl) hS0.out (fun hS => ?_)
  refine wpAnyH_take (i := 1) (oi := (⟨_, _, _, _, _, _⟩ : Oper)) (v := .pointer (some ⟨W.heap.size, 0, none⟩)) rfl (by kernel_rfl) (by kernel_rfl) (by kernel_rfl) (fun _ _ _ h => h) (Or.inl ⟨by kernel_rfl, fun w9 hw9 => ?y1⟩) hS ?_
  case y1 =>
    clear hS
    go_simp
  try simp only [Act.put, List.getElem_toArray, List.getElem_cons_zero, List.getElem_cons_succ, List.setIfInBounds_toArray, List.set_cons_zero, List.set_cons_succ]
  refine wpAnyH_take (i := 2) (oi := (⟨_, _, _, _, _, _⟩ : Oper)) (v := .slice a0 n0 c0) rfl (by kernel_rfl) (by kernel_rfl) (by kernel_rfl) (fun _ _ _ h => h) (Or.inl ⟨by kernel_rfl, fun w9 hw9 => ?y2⟩) hS ?_
  case y2 =>
    have y := Dq.cell_blk hw9.2 0
    clear hS
    go_simp
  try simp only [Act.put, List.getElem_toArray, List.getElem_cons_zero, List.getElem_cons_succ, List.setIfInBounds_toArray, List.set_cons_zero, List.set_cons_succ]
  refine wpAnyH_take (i := 5) (oi := (⟨_, _, _, _, _, _⟩ : Oper)) (v := .pointer (some ⟨W.heap.size, 1, none⟩)) rfl (by kernel_rfl) (by kernel_rfl) (by kernel_rfl) (fun _ _ _ h => h) (Or.inl ⟨by kernel_rfl, fun w9 hw9 => ?y5⟩) hS ?_
  case y5 =>
    clear hS
    go_simp
  try simp only [Act.put, List.getElem_toArray, List.getElem_cons_zero, List.getElem_cons_succ, List.setIfInBounds_toArray, List.set_cons_zero, List.set_cons_succ]
  refine wpAnyH_take (i := 6) (oi := (⟨_, _, _, _, _, _⟩ : Oper)) (v := .slice a1 n1 c1) rfl (by kernel_rfl) (by kernel_rfl) (by kernel_rfl) (fun _ _ _ h => h) (Or.inl ⟨by kernel_rfl, fun w9 hw9 => ?y6⟩) hS ?_
  case y6 =>
    have y := Dq.cell_blk hw9.2 1
    clear hS
    go_simp
  try simp only [Act.put, List.getElem_toArray, List.getElem_cons_zero, List.getElem_cons_succ, List.setIfInBounds_toArray, List.set_cons_zero, List.set_cons_succ]
  refine wpAnyH_take (i := 9) (oi := (⟨_, _, _, _, _, _⟩ : Oper)) (v := .pointer (some ⟨W.heap.size, 2, none⟩)) rfl (by kernel_rfl) (by kernel_rfl) (by kernel_rfl) (fun _ _ _ h => h) (Or.inl ⟨by kernel_rfl, fun w9 hw9 => ?y9⟩) hS ?_
  case y9 =>
    clear hS
    go_simp
  try simp only [Act.put, List.getElem_toArray, List.getElem_cons_zero, List.getElem_cons_succ, List.setIfInBounds_toArray, List.set_cons_zero, List.set_cons_succ]
  refine wpAnyH_take (i := 10) (oi := (⟨_, _, _, _, _, _⟩ : Oper)) (v := .slice a2 n2 c2) rfl (by kernel_rfl) (by kernel_rfl) (by kernel_rfl) (fun _ _ _ h => h) (Or.inl ⟨by kernel_rfl, fun w9 hw9 => ?y10⟩) hS ?_
  case y10 =>
    have y := Dq.cell_blk hw9.2 2
    clear hS
    go_simp
  try simp only [Act.put, List.getElem_toArray, List.getElem_cons_zero, List.getElem_cons_succ, List.setIfInBounds_toArray, List.set_cons_zero, List.set_cons_succ]
  refine wpAnyH_take (i := 13) (oi := (⟨_, _, _, _, _, _⟩ : Oper)) (v := .pointer (some ⟨W.heap.size, 3, none⟩)) rfl (by kernel_rfl) (by kernel_rfl) (by kernel_rfl) (fun _ _ _ h => h) (Or.inl ⟨by kernel_rfl, fun w9 hw9 => ?y13⟩) hS ?_
  case y13 =>
    clear hS
    go_simp
  try simp only [Act.put, List.getElem_toArray, List.getElem_cons_zero, List.getElem_cons_succ, List.setIfInBounds_toArray, List.set_cons_zero, List.set_cons_succ]
  refine wpAnyH_take (i := 14) (oi := (⟨_, _, _, _, _, _⟩ : Oper)) (v := .slice a3 n3 c3) rfl (by kernel_rfl) (by kernel_rfl) (by kernel_rfl) (fun _ _ _ h => h) (Or.inl ⟨by kernel_rfl, fun w9 hw9 => ?y14⟩) hS ?_
  case y14 =>
    have y := Dq.cell_blk hw9.2 3
    clear hS
    go_simp
  try simp only [Act.put, List.getElem_toArray, List.getElem_cons_zero, List.getElem_cons_succ, List.setIfInBounds_toArray, List.set_cons_zero, List.set_cons_succ]
  refine wpAnyH_floats2 (S := fun w' => Below W.heap.size W w' ∧ w'.heap[W.heap.size]? = some (.cells #[.slice a0 n0 c0, .slice a1 n1 c1, .slice a2 n2 c2, .slice a3 n3 c3] 29 (0, 0))) (al := [0, 3, 4, 7, 8, 11, 12, 15]) (dep := fun i => if i = 3 then [0] else if i = 7 then [4, 3] else if i = 11 then [8, 7] else if i = 15 then [12, 11] else []) (fuel := 2) (by decide) (by kernel_rfl) (by kernel_rfl) (fun x => ⟨#[.agg #[.slice a0 n0 c0, .slice a1 n1 c1, .slice a2 n2 c2, .slice a3 n3 c3], .pointer (some ⟨W.heap.size, 0, none⟩), .pointer (some ⟨W.heap.size + 1, 0, none⟩), x 0, .pointer (some ⟨W.heap.size, 0, none⟩), .slice a0 n0 c0, x 3, x 4, .pointer (some ⟨W.heap.size, 1, none⟩), .slice a1 n1 c1, x 7, x 8, .pointer (some ⟨W.heap.size, 2, none⟩), .slice a2 n2 c2, x 11, x 12, .pointer (some ⟨W.heap.size, 3, none⟩), .slice a3 n3 c3, x 15, undef], []⟩) (TwP (W.heap.size + 2) n0 n1 n2 n3 xs0 xs1 xs2 xs3) (fun w => w.heap[W.heap.size + 1]? = some (.cells #[.slice none 0 0, .slice none 0 0, .slice none 0 0, .slice none 0 0] 29 (0, 0))) (fun _ => undef) _ hS hG0.out ?_ ?_
  · intro i hi x d w hS hG hd hdep K hK
    have hal : ∀ o, Below W.heap.size W (w.alloc o) ∧ (w.alloc o).heap[W.heap.size]? = some (.cells #[.slice a0 n0 c0, .slice a1 n1 c1, .slice a2 n2 c2, .slice a3 n3 c3] 29 (0, 0)) := fun o => ⟨hS.1.alloc hS.1.size o, old_at hS.2 o⟩
    have hgl : ∀ o, (w.alloc o).heap[W.heap.size + 1]? = some (.cells #[.slice none 0 0, .slice none 0 0, .slice none 0 0, .slice none 0 0] 29 (0, 0)) := fun o => old_at hG o
    have hkp : ∀ w', Below w.heap.size w w' → ∀ j ∈ d, TwP (W.heap.size + 2) n0 n1 n2 n3 xs0 xs1 xs2 xs3 j (x j) w' := fun w' hB j hj => (hd j hj).below hB
    have hsb : ∀ w', Below w.heap.size w w' → Below W.heap.size W w' ∧ w'.heap[W.heap.size]? = some (.cells #[.slice a0 n0 c0, .slice a1 n1 c1, .slice a2 n2 c2, .slice a3 n3 c3] 29 (0, 0)) := fun w' hB => ⟨hS.1.trans (hB.mono hS.1.size), (hB.block _ (Array.getElem?_eq_some_iff.1 hS.2).1).trans hS.2⟩
    have hgb : ∀ w', Below w.heap.size w w' → w'.heap[W.heap.size + 1]? = some (.cells #[.slice none 0 0, .slice none 0 0, .slice none 0 0, .slice none 0 0] 29 (0, 0)) := fun w' hB => (hB.block _ (Array.getElem?_eq_some_iff.1 hG).1).trans hG
    have hN := NN.out w hG
    have hBW := Mr.hid hS.1
    replace hd := Mr.hid hd
    replace hG := Mr.hid hG
    replace hS := Mr.hid hS
    replace hK := Mr.hid hK
    replace hal := Mr.hid hal
    replace hgl := Mr.hid hgl
    replace hkp := Mr.hid hkp
    replace hsb := Mr.hid hsb
    replace hgb := Mr.hid hgb
    simp only [List.mem_cons, List.not_mem_nil, or_false] at hi
    rcases hi with rfl | rfl | rfl | rfl | rfl | rfl | rfl | rfl
    · have hf := fun o a => hK.out _ _ (hal.out o) (hgl.out o) (hkp.out _ ((Below.refl _ _).alloc (Nat.le_refl _) o)) (TwP.mk0 (i := 0) (by omega) a)
      replace hf := Mr.hid hf
      refine wpOp_step rfl (fun K' hK' => ?_)
      replace hK' := Mr.hid hK'
      try simp only [Act.put, List.getElem_toArray, List.getElem_cons_zero, List.getElem_cons_succ, List.setIfInBounds_toArray, List.set_cons_zero, List.set_cons_succ]
      go_simp
      exact hK'.out _ _ (hf.out _ _)
    · obtain ⟨av, hav⟩ := (hd.out 0 (hdep 0 (by simp))).e (by omega)
      have hav' := Mr.hid hav
      refine wpOp_step rfl (fun K' hK' => ?_)
      replace hK' := Mr.hid hK'
      refine step_append_mine _ rfl (.tmp 3) (.tmp 5) 24 rfl (fun _ => False) 52 ip _ 9 72 Try.underlying24 p1 p2 p3 p4 rfl (.slice av 0 0) 0 [] (by first | (simp [Act.eval]; exact hav) | exact hav) (Own.zero _ _ _ _ _) a0 n0 c0 xs0 (by first | rfl | simp [Act.eval]) H0.out.len H0.out.nil (H0.out.at_ w hBW.out) H0.out.one (by unfold maxLen; omega) (by omega) ?_
      intro b9 c9 w9 hown hfr
      rw [Nat.zero_add, List.nil_append] at hown
      rw [Nat.zero_add]
      have hB9 : Below w.heap.size w w9 := hfr.below (fun k hk => hk.elim) (Nat.le_refl _)
      have hf := hK.out _ _ (hsb.out _ hB9) (hgb.out _ hB9) (hkp.out _ hB9) (TwP.mk3 (hown.mono (fun k hk => by rcases hk with hk | hk; exact hk.elim; omega)))
      replace hf := Mr.hid hf
      exact hK'.out _ _ hf.out
    · have hf := fun o a => hK.out _ _ (hal.out o) (hgl.out o) (hkp.out _ ((Below.refl _ _).alloc (Nat.le_refl _) o)) (TwP.mk0 (i := 4) (by omega) a)
      replace hf := Mr.hid hf
      refine wpOp_step rfl (fun K' hK' => ?_)
      replace hK' := Mr.hid hK'
      try simp only [Act.put, List.getElem_toArray, List.getElem_cons_zero, List.getElem_cons_succ, List.setIfInBounds_toArray, List.set_cons_zero, List.set_cons_succ]
      go_simp
      exact hK'.out _ _ (hf.out _ _)
    · obtain ⟨av, hav⟩ := (hd.out 4 (hdep 4 (by simp))).e (by omega)
      have hav' := Mr.hid hav
      refine wpOp_step rfl (fun K' hK' => ?_)
      replace hK' := Mr.hid hK'
      refine step_append_mine _ rfl (.tmp 7) (.tmp 9) 25 rfl (fun _ => False) 117 iq _ 7 56 Try.underlying25 q1 q2 q3 q4 rfl (.slice av 0 0) 0 [] (by first | (simp [Act.eval]; exact hav) | exact hav) (Own.zero _ _ _ _ _) a1 n1 c1 xs1 (by first | rfl | simp [Act.eval]) H1.out.len H1.out.nil (H1.out.at_ w hBW.out) H1.out.one (by unfold maxLen; omega) (by omega) ?_
      intro b9 c9 w9 hown hfr
      rw [Nat.zero_add, List.nil_append] at hown
      rw [Nat.zero_add]
      have hB9 : Below w.heap.size w w9 := hfr.below (fun k hk => hk.elim) (Nat.le_refl _)
      have hf := hK.out _ _ (hsb.out _ hB9) (hgb.out _ hB9) (hkp.out _ hB9) (TwP.mk7 (hown.mono (fun k hk => by rcases hk with hk | hk; exact hk.elim; omega)))
      replace hf := Mr.hid hf
      exact hK'.out _ _ hf.out
    · have hf := fun o a => hK.out _ _ (hal.out o) (hgl.out o) (hkp.out _ ((Below.refl _ _).alloc (Nat.le_refl _) o)) (TwP.mk0 (i := 8) (by omega) a)
      replace hf := Mr.hid hf
      refine wpOp_step rfl (fun K' hK' => ?_)
      replace hK' := Mr.hid hK'
      try simp only [Act.put, List.getElem_toArray, List.getElem_cons_zero, List.getElem_cons_succ, List.setIfInBounds_toArray, List.set_cons_zero, List.set_cons_succ]
      go_simp
      exact hK'.out _ _ (hf.out _ _)
    · obtain ⟨av, hav⟩ := (hd.out 8 (hdep 8 (by simp))).e (by omega)
      have hav' := Mr.hid hav
      refine wpOp_step rfl (fun K' hK' => ?_)
      replace hK' := Mr.hid hK'
      refine step_append_mine _ rfl (.tmp 11) (.tmp 13) 26 rfl (fun _ => False) 120 ir _ 5 40 Try.underlying26 r1 r2 r3 r4 rfl (.slice av 0 0) 0 [] (by first | (simp [Act.eval]; exact hav) | exact hav) (Own.zero _ _ _ _ _) a2 n2 c2 xs2 (by first | rfl | simp [Act.eval]) H2.out.len H2.out.nil (H2.out.at_ w hBW.out) H2.out.one (by unfold maxLen; omega) (by omega) ?_
      intro b9 c9 w9 hown hfr
      rw [Nat.zero_add, List.nil_append] at hown
      rw [Nat.zero_add]
      have hB9 : Below w.heap.size w w9 := hfr.below (fun k hk => hk.elim) (Nat.le_refl _)
      have hf := hK.out _ _ (hsb.out _ hB9) (hgb.out _ hB9) (hkp.out _ hB9) (TwP.mk11 (hown.mono (fun k hk => by rcases hk with hk | hk; exact hk.elim; omega)))
      replace hf := Mr.hid hf
      exact hK'.out _ _ hf.out
    · have hf := fun o a => hK.out _ _ (hal.out o) (hgl.out o) (hkp.out _ ((Below.refl _ _).alloc (Nat.le_refl _) o)) (TwP.mk0 (i := 12) (by omega) a)
      replace hf := Mr.hid hf
      refine wpOp_step rfl (fun K' hK' => ?_)
      replace hK' := Mr.hid hK'
      try simp only [Act.put, List.getElem_toArray, List.getElem_cons_zero, List.getElem_cons_succ, List.setIfInBounds_toArray, List.set_cons_zero, List.set_cons_succ]
      go_simp
      exact hK'.out _ _ (hf.out _ _)
    · obtain ⟨av, hav⟩ := (hd.out 12 (hdep 12 (by simp))).e (by omega)
      have hav' := Mr.hid hav
      refine wpOp_step rfl (fun K' hK' => ?_)
      replace hK' := Mr.hid hK'
      refine step_append_mine _ rfl (.tmp 15) (.tmp 17) 27 rfl (fun _ => False) 72 it _ 1 8 Try.underlying27 t1 t2 t3 t4 rfl (.slice av 0 0) 0 [] (by first | (simp [Act.eval]; exact hav) | exact hav) (Own.zero _ _ _ _ _) a3 n3 c3 xs3 (by first | rfl | simp [Act.eval]) H3.out.len H3.out.nil (H3.out.at_ w hBW.out) H3.out.one (by unfold maxLen; omega) (by omega) ?_
      intro b9 c9 w9 hown hfr
      rw [Nat.zero_add, List.nil_append] at hown
      rw [Nat.zero_add]
      have hB9 : Below w.heap.size w w9 := hfr.below (fun k hk => hk.elim) (Nat.le_refl _)
      have hf := hK.out _ _ (hsb.out _ hB9) (hgb.out _ hB9) (hkp.out _ hB9) (TwP.mk15 (hown.mono (fun k hk => by rcases hk with hk | hk; exact hk.elim; omega)))
      replace hf := Mr.hid hf
      exact hK'.out _ _ hf.out
  · intro x w hS hG hd
    obtain ⟨b0, k0, e0, o0⟩ := (hd 3 (by simp)).r3 rfl
    obtain ⟨b1, k1, e1, o1⟩ := (hd 7 (by simp)).r7 rfl
    obtain ⟨b2, k2, e2, o2⟩ := (hd 11 (by simp)).r11 rfl
    obtain ⟨b3, k3, e3, o3⟩ := (hd 15 (by simp)).r15 rfl
    clear hd
    (try dsimp only)
    simp only [e0, e1, e2, e3]
    clear e0 e1 e2 e3
    have hSh := Mr.hid hS
    have hGh := Mr.hid hG
    refine wpAnyH_take (i := 16) (oi := (⟨_, _, _, _, _, _⟩ : Oper)) (v := .agg #[.slice b0 n0 k0, .slice b1 n1 k1, .slice b2 n2 k2, .slice b3 n3 k3]) rfl (by kernel_rfl) (by kernel_rfl) (by kernel_rfl) (fun _ _ _ h => h) (Or.inl ⟨by kernel_rfl, fun w9 hw9 => ?y16⟩) hS ?_
    case y16 =>
      clear hS
      go_simp
    try simp only [Act.put, List.getElem_toArray, List.getElem_cons_zero, List.getElem_cons_succ, List.setIfInBounds_toArray, List.set_cons_zero, List.set_cons_succ]
    have g0 := Dq.cell_blk hG 0
    have g1 := Dq.cell_blk hG 1
    have g2 := Dq.cell_blk hG 2
    have g3 := Dq.cell_blk hG 3
    have gz : ∀ o, w.frozen? ⟨W.heap.size + 1, o, none⟩ = false := fun o => by simp [World.frozen?, hG]
    clear hG
    refine wpAnyH_ready (rs := [17]) (by kernel_rfl) (by simp) ?_
    refine AllReadyH.cons (o := (⟨_, _, _, _, _, _⟩ : Oper)) rfl (fun K hK => ?_) AllReadyH.nil
    try simp only [Act.put, List.getElem_toArray, List.getElem_cons_zero, List.getElem_cons_succ, List.setIfInBounds_toArray, List.set_cons_zero, List.set_cons_succ]
    go_simp
    refine hK.out _ _ (?sS) (fun hS9 => ?_)
    case sS => exact ⟨(((hSh.out.1.setCell (p := ⟨W.heap.size + 1, 0, none⟩) (by simp) _).setCell (p := ⟨W.heap.size + 1, 1, none⟩) (by simp) _).setCell (p := ⟨W.heap.size + 1, 2, none⟩) (by simp) _).setCell (p := ⟨W.heap.size + 1, 3, none⟩) (by simp) _, by
      rw [Below.heap_setCell _ _ _ _ (by simp), Below.heap_setCell _ _ _ _ (by simp), Below.heap_setCell _ _ _ _ (by simp), Below.heap_setCell _ _ _ _ (by simp)]; exact hSh.out.2⟩
    clear hK K
    try simp only [Act.put, List.getElem_toArray, List.getElem_cons_zero, List.getElem_cons_succ, List.setIfInBounds_toArray, List.set_cons_zero, List.set_cons_succ]
    refine wpAnyH_done (by kernel_rfl) ?_ _
    have hB5 := Mr.hid hS9.1
    have hb5 := setBlk (setBlk (setBlk (setBlk hGh.out 0 (.slice b0 n0 k0)) 1 (.slice b1 n1 k1)) 2 (.slice b2 n2 k2)) 3 (.slice b3 n3 k3)
    have ho5 : ∀ k, k ≠ W.heap.size + 1 → ((((w.setCell ⟨W.heap.size + 1, 0, none⟩ (.slice b0 n0 k0)).setCell ⟨W.heap.size + 1, 1, none⟩ (.slice b1 n1 k1)).setCell ⟨W.heap.size + 1, 2, none⟩ (.slice b2 n2 k2)).setCell ⟨W.heap.size + 1, 3, none⟩ (.slice b3 n3 k3)).heap[k]? = w.heap[k]? := fun k hk => by
      rw [Below.heap_setCell _ _ _ k hk, Below.heap_setCell _ _ _ k hk, Below.heap_setCell _ _ _ k hk, Below.heap_setCell _ _ _ k hk]
    clear hS hS9
    generalize (((w.setCell ⟨W.heap.size + 1, 0, none⟩ (.slice b0 n0 k0)).setCell ⟨W.heap.size + 1, 1, none⟩ (.slice b1 n1 k1)).setCell ⟨W.heap.size + 1, 2, none⟩ (.slice b2 n2 k2)).setCell ⟨W.heap.size + 1, 3, none⟩ (.slice b3 n3 k3) = w5 at *
    simp only [List.setIfInBounds_toArray, List.set_cons_zero, List.set_cons_succ] at hb5
    have f0 := Mr.hid ((o0.kept (fun k hk _ => ho5 k (by omega)) (fun k (hk : W.heap.size + 2 ≤ k) => (by omega : W.heap.size ≤ k))) : Own w5 (fun k => W.heap.size ≤ k) 52 9 (.slice b0 n0 k0) n0 xs0)
    have f1 := Mr.hid ((o1.kept (fun k hk _ => ho5 k (by omega)) (fun k (hk : W.heap.size + 2 ≤ k) => (by omega : W.heap.size ≤ k))) : Own w5 (fun k => W.heap.size ≤ k) 117 7 (.slice b1 n1 k1) n1 xs1)
    have f2 := Mr.hid ((o2.kept (fun k hk _ => ho5 k (by omega)) (fun k (hk : W.heap.size + 2 ≤ k) => (by omega : W.heap.size ≤ k))) : Own w5 (fun k => W.heap.size ≤ k) 120 5 (.slice b2 n2 k2) n2 xs2)
    have f3 := Mr.hid ((o3.kept (fun k hk _ => ho5 k (by omega)) (fun k (hk : W.heap.size + 2 ≤ k) => (by omega : W.heap.size ≤ k))) : Own w5 (fun k => W.heap.size ≤ k) 72 1 (.slice b3 n3 k3) n3 xs3)
    have d0 := Dq.cell_blk hb5 0
    have d1 := Dq.cell_blk hb5 1
    have d2 := Dq.cell_blk hb5 2
    have d3 := Dq.cell_blk hb5 3
    clear o0 o1 o2 o3 g0 g1 g2 g3 gz ho5 hb5
    go_wp2
    refine bodyPost_ret (v := rnV (.slice b0 n0 k0) (.slice b1 n1 k1) (.slice b2 n2 k2) (.slice b3 n3 k3)) (by simp [results, Try.results5, go_sem, d0, d1, d2, d3, rnV]) rfl ?_
    exact ⟨b0, k0, b1, k1, b2, k2, b3, k3, rfl, hB5.out, f0.out, f1.out, f2.out, f3.out⟩
end Go.Proofs.Ytaojggnflblgnaa.Hd
