import Derived.Test.YtpknggcgojkjgaaGreatJ22
import Derived.Test.YtpknggcgojkjgaaGreatJ16
import Derived.Test.YtpknggcgojkjgaaGreatJ19
import Derived.Test.YtpknggcgojkjgaaGreatJ14
/-
  First, joined: whatever number of used slots.
-/
namespace Go.Proofs.YtpknggcgojkjgaaGreat.Wr
open Go.RowKit
open Wc Wm
/-- What First leaves, of a configuration that may be. -/
def fstF (a1 a2 a5 a6 u : Int) : Nat → Int := memF (if u < a5 then u + 1 else 0) (if 0 < u then 1 else 0) (if 0 < u then 1 else 0) (base a1 a2 a5 a6 10) u (if u < a5 then a5 - 1 else u)
theorem sizes {a1 a2 a5 a6 : Int} (hok : Ok a1 a2 a5 a6) : ∃ n m : Nat, base a1 a2 a5 a6 14 = (n : Int) ∧ base a1 a2 a5 a6 10 = (m : Int) ∧ (m : Int) + 4 * a5 ≤ n ∧ 6 < m ∧ a5 ≤ 1024 ∧ n ≤ 65536 := by
  have b14 := base_bd hok 14
  have b10 := base_bd hok 10
  obtain ⟨o1, o2, o3, o4, o5, o6, o7, o8⟩ := hok
  have m1 : 0 ≤ a1 * a2 := Int.mul_nonneg (by omega) (by omega)
  have h14 := base14 a1 a2 a5 a6
  have h10 := base10 a1 a2 a5 a6
  exact ⟨(base a1 a2 a5 a6 14).toNat, (base a1 a2 a5 a6 10).toNat, by omega, by omega, by omega, by omega, by omega, by omega⟩
theorem first_all (a0 a1 a2 a3 a4 a5 a6 u : Int) (n : Nat) (w : World) (hc : cfgB a0 a1 a2 a3 a4 a5 a6 = true) (hn : base a1 a2 a5 a6 14 = (n : Int)) (h0 : 0 ≤ u) (h1 : u ≤ a5) :
    Calls Tryz.prog 76 #[.agg #[.int .i64 a0, .int .i64 a1, .int .i64 a2, .int .i64 a3, .int .i64 a4, .int .i64 a5, .int .i64 a6], .int .i64 u] w fun e w' =>
      ∃ b : Nat, e = .returned (.tuple #[.slice (some ⟨b, 0, none⟩) n n, .int .i64 0]) ∧ w.heap.size ≤ b ∧ Row w' b n (fstF a1 a2 a5 a6 u) ∧ Below w.heap.size w w' := by
  obtain ⟨n', m, hn', hm, g1, g2, g3, g4⟩ := sizes (ok_of hc)
  obtain rfl : n' = n := by omega
  obtain ⟨U, rfl⟩ := Int.eq_ofNat_of_zero_le h0
  unfold fstF
  rw [hm]
  by_cases c1 : (U : Int) < a5
  · rw [if_pos c1, if_pos c1]
    by_cases c2 : 0 < U
    · rw [if_pos (by omega)]
      exact first_a a0 a1 a2 a3 a4 a5 a6 U n' m w hc hn hm g1 g2 g3 g4 c1 c2
    · obtain rfl : U = 0 := by omega
      rw [if_neg (by omega)]
      exact first_b a0 a1 a2 a3 a4 a5 a6 n' m w hc hn hm g1 g2 g3 g4 (by omega)
  · rw [if_neg c1, if_neg c1]
    have o := ok_of hc
    obtain ⟨o1, o2, o3, o4, o5, o6, o7, o8⟩ := o
    rw [if_pos (by omega)]
    exact first_c a0 a1 a2 a3 a4 a5 a6 U n' m w hc hn hm g1 g2 g3 g4 (by omega) (by omega)
end Go.Proofs.YtpknggcgojkjgaaGreat.Wr
/-
  CENSUS: read, where all goes together.
-/
namespace Go.Proofs.YtpknggcgojkjgaaGreat.Cn
open Go.RowKit Mr Md
set_option linter.unusedVariables false
set_option linter.unusedSimpArgs false
set_option maxRecDepth 100000
def fstL (c : Nat → Int) (u : Int) (N : Nat) : List Int := (List.range N).map fun k => Wr.fstF (c 1) (c 2) (c 5) (c 6) u k
theorem fstL_len (c : Nat → Int) (u : Int) (N : Nat) : (fstL c u N).length = N := by simp [fstL]
theorem row_box {w : World} {b N : Nat} {c : Nat → Int} {u : Int} (h : Wr.Row w b N (Wr.fstF (c 1) (c 2) (c 5) (c 6) u)) : Rw w b (fstL c u N).length (wdF (fstL c u N)) := by
  rw [fstL_len]
  exact ⟨h.size, fun k hk => by rw [h.cell k hk]; simp [wdF, fstL, hk], h.free⟩
def cfO (c : Nat → Int) : Obj := .cells #[.int .i64 (c 0), .int .i64 (c 1), .int .i64 (c 2), .int .i64 (c 3), .int .i64 (c 4), .int .i64 (c 5), .int .i64 (c 6)] 23 (0, 0)
theorem cfO_cells {w : World} {b : Nat} {c : Nat → Int} (h : w.heap[b]? = some (cfO c)) : w.cell? ⟨b, 0, none⟩ = some (.int .i64 (c 0)) ∧ w.cell? ⟨b, 1, none⟩ = some (.int .i64 (c 1)) ∧ w.cell? ⟨b, 2, none⟩ = some (.int .i64 (c 2)) ∧ w.cell? ⟨b, 3, none⟩ = some (.int .i64 (c 3)) ∧ w.cell? ⟨b, 4, none⟩ = some (.int .i64 (c 4)) ∧ w.cell? ⟨b, 5, none⟩ = some (.int .i64 (c 5)) ∧ w.cell? ⟨b, 6, none⟩ = some (.int .i64 (c 6)) ∧ b < w.heap.size := by
  have hlt := (Array.getElem?_eq_some_iff.1 h).1
  unfold cfO at h
  exact ⟨by simp [World.cell?, h], by simp [World.cell?, h], by simp [World.cell?, h], by simp [World.cell?, h], by simp [World.cell?, h], by simp [World.cell?, h], by simp [World.cell?, h], hlt⟩
/-- What read has made so far: its three boxes. -/
structure Rd (W w : World) (c : Nat → Int) (V0 V1 V2 V3 : Value) (ob : Obj) : Prop where
  bel : Below W.heap.size W w
  b0 : w.heap[W.heap.size]? = some (cfO c)
  b1 : w.heap[W.heap.size + 1]? = some (rnO V0 V1 V2 V3)
  b2 : w.heap[W.heap.size + 1 + 1]? = some ob
theorem Rd.below {W w w' : World} {c : Nat → Int} {V0 V1 V2 V3 : Value} {ob : Obj} (h : Rd W w c V0 V1 V2 V3 ob) (hB : Below w.heap.size w w') : Rd W w' c V0 V1 V2 V3 ob :=
  ⟨h.bel.trans (hB.mono h.bel.size), (hB.block _ (Array.getElem?_eq_some_iff.1 h.b0).1).trans h.b0, (hB.block _ (Array.getElem?_eq_some_iff.1 h.b1).1).trans h.b1, (hB.block _ (Array.getElem?_eq_some_iff.1 h.b2).1).trans h.b2⟩
def putL (w : World) (b : Nat) : Nat → List Value → World
  | _, [] => w
  | o, v :: vs => putL (w.setCell ⟨b, o, none⟩ v) b (o + 1) vs
def setL (cs : Array Value) : Nat → List Value → Array Value
  | _, [] => cs
  | o, v :: vs => setL (cs.setIfInBounds o v) (o + 1) vs
theorem putL_box {b : Nat} {t : TypeId} (vs : List Value) : ∀ {w : World} {cs : Array Value} (o : Nat), w.heap[b]? = some (.cells cs t (0, 0)) → (putL w b o vs).heap[b]? = some (.cells (setL cs o vs) t (0, 0)) := by
  induction vs with
  | nil => intro w cs o h; exact h
  | cons v vs ih => intro w cs o h; exact ih (o + 1) (setBlk h o v)
theorem putL_fr (b : Nat) (vs : List Value) : ∀ (w : World) (o : Nat), Fr w (putL w b o vs) (fun k => k = b) := by
  induction vs with
  | nil => intro w o; exact Fr.refl _ _
  | cons v vs ih => intro w o; exact ((Fr.refl w (fun k => k = b)).setCell ⟨b, o, none⟩ v (.inl rfl)).trans ((ih _ _).mono (fun k hk => .inl hk))
theorem set13 (x0 x1 x2 x3 x4 x5 x6 x7 x8 x9 x10 x11 x12 : Value) (cs : List Value) (h : cs.length = 13) : setL cs.toArray 0 [x0, x1, x2, x3, x4, x5, x6, x7, x8, x9, x10, x11, x12] = #[x0, x1, x2, x3, x4, x5, x6, x7, x8, x9, x10, x11, x12] := by
  match cs, h with
  | [_, _, _, _, _, _, _, _, _, _, _, _, _], _ => simp [setL]
theorem ev_kd {cs : List Cq} {tr : List Ax} {sh : List Sx} {e : Ev} (h : e ∈ evA cs tr sh) : e.kd ≠ 0 := by
  rw [evA_mem] at h
  rcases h with ⟨i, c, _, rfl | ⟨_, rfl⟩⟩ | ⟨i, a, _, rfl⟩ | ⟨i, a, _, rfl⟩ <;> simp [bev, fev, aev, sev]
theorem sl_apart {w : World} {T : Nat → Prop} {v : Value} {es : List Ev} {b : Nat} (h : Sl w T 4 v es.length (evs es)) (hk : ∀ e ∈ es, e.kd ≠ 0) (hb : w.heap[b]? = some (.cells #[.int .i64 0, .int .i64 0, .int .i64 0, .int .i64 0, .int .i64 0, .int .i64 0, .int .i64 0, .int .i64 0, .slice none 0 0, .slice none 0 0, .slice none 0 0, .slice none 0 0, .slice none 0 0] 78 (0, 0))) : Sl w (fun k => T k ∧ k ≠ b) 4 v es.length (evs es) := by
  obtain ⟨h1, a, cap, hv, hc, h2⟩ := h
  by_cases hn0 : es.length = 0
  · exact ⟨h1, a, cap, hv, hc, .inl hn0⟩
  refine ⟨h1, a, cap, hv, hc, h2.imp id ?_⟩
  rintro ⟨g, o, ha, hT, hl, hr⟩
  by_cases hn : es.length = 0
  · exact absurd hn hn0
  · refine ⟨g, o, ha, ⟨hT, fun e => ?_⟩, hl, hr⟩
    subst e
    obtain ⟨x, hx⟩ : ∃ x, es[0]? = some x := ⟨es[0]'(by omega), List.getElem?_eq_getElem _⟩
    have c0 := hr 0 _ (evs_get es 0 x hx 0 (by omega))
    rw [cell_blk hb] at c0
    have hx0 := hk x (List.mem_of_getElem? hx)
    simp only [Nat.add_zero, List.getElem?_toArray] at c0
    have ho : o < 13 := by have := (List.getElem?_eq_some_iff.1 c0).1; simpa using this
    have : o = 0 ∨ o = 1 ∨ o = 2 ∨ o = 3 ∨ o = 4 ∨ o = 5 ∨ o = 6 ∨ o = 7 ∨ o = 8 ∨ o = 9 ∨ o = 10 ∨ o = 11 ∨ o = 12 := by omega
    rcases this with rfl | rfl | rfl | rfl | rfl | rfl | rfl | rfl | rfl | rfl | rfl | rfl | rfl <;> simp [Ev.row] at c0 <;> exact hx0 c0.symm
set_option maxHeartbeats 16000000 in
theorem read_true {W : World} {T : Nat → Prop} {c : Nat → Int} {n used N : Nat} {V0 V1 V2 V3 : Value} {cs : List Cq} {tr : List Ax} {sh : List Sx} {wl : List Int} (hr : RunAt W T V0 V1 V2 V3 cs tr sh wl) (hcfg : Wc.cfgB (c 0) (c 1) (c 2) (c 3) (c 4) (c 5) (c 6) = true) (hN : Wm.base (c 1) (c 2) (c 5) (c 6) 14 = (N : Int)) (hN6 : N ≤ 65536) (hc5 : c 5 = (n : Int)) (hn : n ≤ 1024) (hu : used ≤ n) (hc0 : c 0 ≤ 16) (hlen : wl.length = N)
    (hsz : ((2 * cs.length + tr.length + sh.length) + (2 * cs.length + tr.length + sh.length) / 4 + 192) * 32 ≤ 281474976710656) (hok : ∀ x ∈ cs, okC (c 0) x)
    (hpass : ∀ es : List Ev, es.Perm (evA cs tr sh) → es.Pairwise (fun a b => ¬ Ev.lt b a) → (∀ (i : Nat) (e : Ev), es[i]? = some e → EvOk sh e) ∧ ∀ K : Jc, K.c = c → (watchN (jm K sh) es (jg0 n used (fstL c used N)) es.length).2 = true ∧ (watchN (jm K sh) es (jg0 n used (fstL c used N)) es.length).1.wds = wl) :
    Calls Tryz.prog 42 #[cfgV c, .int .i64 (used : Int), rnV V0 V1 V2 V3] W fun r w' => Below W.heap.size W w' ∧ ∃ (ev : Value) (es : List Ev), r = .returned (.tuple #[stV c used V0 V1 V2 V3 ev, .int .i64 0]) ∧ es.Perm (evA cs tr sh) ∧ es.Pairwise (fun a b => ¬ Ev.lt b a) ∧ Sl w' (fun k => W.heap.size ≤ k) 4 ev es.length (evs es) := by
  have FC := Mr.hid (fun w => Wr.first_all (c 0) (c 1) (c 2) (c 3) (c 4) (c 5) (c 6) used N w hcfg hN (by omega) (by rw [hc5]; omega))
  have R0 : Hid (Rd W (((W.alloc (cfO c)).alloc (rnO V0 V1 V2 V3)).alloc (.cells #[.int .i64 0, .int .i64 0, .int .i64 0, .int .i64 0, .int .i64 0, .int .i64 0, .int .i64 0, .int .i64 0, .slice none 0 0, .slice none 0 0, .slice none 0 0, .slice none 0 0, .slice none 0 0] 78 (0, 0))) c V0 V1 V2 V3 (.cells #[.int .i64 0, .int .i64 0, .int .i64 0, .int .i64 0, .int .i64 0, .int .i64 0, .int .i64 0, .int .i64 0, .slice none 0 0, .slice none 0 0, .slice none 0 0, .slice none 0 0, .slice none 0 0] 78 (0, 0))) := ⟨(((Below.refl _ _).alloc (Nat.le_refl _) _).alloc (by simp <;> omega) _).alloc (by simp <;> omega) _, old_at (old_at (new_at _ _ _ rfl) _) _, old_at (new_at _ _ _ (by simp <;> omega)) _, new_at _ _ _ (by simp <;> omega)⟩
  replace hcfg := Mr.hid hcfg
  replace hN := Mr.hid hN
  replace hc5 := Mr.hid hc5
  replace hc0 := Mr.hid hc0
  replace hsz := Mr.hid hsz
  replace hok := Mr.hid hok
  replace hpass := Mr.hid hpass
  replace hlen := Mr.hid hlen
  replace hr := Mr.hid hr
  unfold cfgV rnV
  have R1 : Hid (Rd W (((W.alloc (.cells #[.int .i64 (c 0), .int .i64 (c 1), .int .i64 (c 2), .int .i64 (c 3), .int .i64 (c 4), .int .i64 (c 5), .int .i64 (c 6)] 23 (0, 0))).alloc (.cells #[V0, V1, V2, V3] 36 (0, 0))).alloc (.cells #[.int .i64 0, .int .i64 0, .int .i64 0, .int .i64 0, .int .i64 0, .int .i64 0, .int .i64 0, .int .i64 0, .slice none 0 0, .slice none 0 0, .slice none 0 0, .slice none 0 0, .slice none 0 0] 78 (0, 0))) c V0 V1 V2 V3 (.cells #[.int .i64 0, .int .i64 0, .int .i64 0, .int .i64 0, .int .i64 0, .int .i64 0, .int .i64 0, .int .i64 0, .slice none 0 0, .slice none 0 0, .slice none 0 0, .slice none 0 0, .slice none 0 0] 78 (0, 0))) := R0
  clear R0
  go_enter Tryz.func42, Tryz.ntmps42
  go_upto_region 1 with (fail)
  generalize (((W.alloc _).alloc _).alloc _) = wa at *
  obtain ⟨k0, k1, k2, k3, k4, k5, k6, kl⟩ := cfO_cells R1.out.b0
  go_upto_region 4 with (go_at_call 76; refine (FC.out _).mono ?_; clear FC; rintro e wb ⟨gw, rfl, hgw, hrow, hBb⟩; have R2 := Mr.hid (R1.out.below hBb); have hwd := Mr.hid (row_box (c := c) (u := used) hrow); have hgb := Mr.hid (show W.heap.size + 1 + 1 < gw by have := (Array.getElem?_eq_some_iff.1 R1.out.b2).1; omega); clear R1 hBb hrow hgw k0 k1 k2 k3 k4 k5 k6 kl)
  obtain ⟨k0, k1, k2, k3, k4, k5, k6, kl⟩ := cfO_cells R2.out.b0
  obtain ⟨j0, j1, j2, j3, jl⟩ := rnO_cells R2.out.b1
  have hrb : Hid (∀ w', Below wb.heap.size wb w' → RunAt w' T V0 V1 V2 V3 cs tr sh wl) := fun w' h => hr.out.below (R2.out.bel.trans (h.mono R2.out.bel.size))
  have EC : Hid (∀ w', Below wb.heap.size wb w' → Calls Tryz.prog 77 #[.agg #[V0, V1, V2, V3]] w' fun e w2 => Below w'.heap.size w' w2 ∧ ∃ (u : Value) (es : List Ev), e = .returned u ∧ es.Perm (evA cs tr sh) ∧ es.Pairwise (fun a b => ¬ Ev.lt b a) ∧ Sl w2 (fun k => w'.heap.size ≤ k) 4 u es.length (evs es)) := fun w' h => eventsOf_any (hrb.out w' h) hsz.out
  have S0 : Below wb.heap.size wb wb.drew := (Below.refl _ _).drew
  refine wp_region_held_drew (S := fun w' => Below wb.heap.size wb w') (by kernel_rfl) S0 (fun hS => ?_)
  try simp only [Act.put, List.getElem_toArray, List.getElem_cons_zero, List.getElem_cons_succ, List.setIfInBounds_toArray, List.set_cons_zero, List.set_cons_succ]
  refine wpAnyH_take (i := 0) (v := .agg #[.int .i64 (c 0), .int .i64 (c 1), .int .i64 (c 2), .int .i64 (c 3), .int .i64 (c 4), .int .i64 (c 5), .int .i64 (c 6)]) rfl (by kernel_rfl) (by kernel_rfl) (by kernel_rfl) (fun _ _ _ h => h) (Or.inl ⟨by kernel_rfl, fun w' hw => ?y0⟩) hS ?_
  case y0 =>
    clear hS
    have q0 := (hw.cell (p := ⟨W.heap.size, 0, none⟩) kl).trans k0
    have q1 := (hw.cell (p := ⟨W.heap.size, 1, none⟩) kl).trans k1
    have q2 := (hw.cell (p := ⟨W.heap.size, 2, none⟩) kl).trans k2
    have q3 := (hw.cell (p := ⟨W.heap.size, 3, none⟩) kl).trans k3
    have q4 := (hw.cell (p := ⟨W.heap.size, 4, none⟩) kl).trans k4
    have q5 := (hw.cell (p := ⟨W.heap.size, 5, none⟩) kl).trans k5
    have q6 := (hw.cell (p := ⟨W.heap.size, 6, none⟩) kl).trans k6
    clear hw
    go_simp
  try simp only [Act.put, List.getElem_toArray, List.getElem_cons_zero, List.getElem_cons_succ, List.setIfInBounds_toArray, List.set_cons_zero, List.set_cons_succ]
  refine wpAnyH_take (i := 1) (v := .int .i64 (used : Int)) rfl (by kernel_rfl) (by kernel_rfl) (by kernel_rfl) (fun _ _ _ h => h) (Or.inl ⟨by kernel_rfl, fun w' hw => ?y1⟩) hS ?_
  case y1 =>
    clear hS
    go_simp
  try simp only [Act.put, List.getElem_toArray, List.getElem_cons_zero, List.getElem_cons_succ, List.setIfInBounds_toArray, List.set_cons_zero, List.set_cons_succ]
  refine wpAnyH_take (i := 2) (v := .agg #[V0, V1, V2, V3]) rfl (by kernel_rfl) (by kernel_rfl) (by kernel_rfl) (fun _ _ _ h => h) (Or.inl ⟨by kernel_rfl, fun w' hw => ?y2⟩) hS ?_
  case y2 =>
    clear hS
    have q0 := (hw.cell (p := ⟨W.heap.size + 1, 0, none⟩) jl).trans j0
    have q1 := (hw.cell (p := ⟨W.heap.size + 1, 1, none⟩) jl).trans j1
    have q2 := (hw.cell (p := ⟨W.heap.size + 1, 2, none⟩) jl).trans j2
    have q3 := (hw.cell (p := ⟨W.heap.size + 1, 3, none⟩) jl).trans j3
    clear hw
    go_simp
  try simp only [Act.put, List.getElem_toArray, List.getElem_cons_zero, List.getElem_cons_succ, List.setIfInBounds_toArray, List.set_cons_zero, List.set_cons_succ]
  refine wpAnyH_take (i := 3) (v := .agg #[V0, V1, V2, V3]) rfl (by kernel_rfl) (by kernel_rfl) (by kernel_rfl) (fun _ _ _ h => h) (Or.inl ⟨by kernel_rfl, fun w' hw => ?y3⟩) hS ?_
  case y3 =>
    clear hS
    have q0 := (hw.cell (p := ⟨W.heap.size + 1, 0, none⟩) jl).trans j0
    have q1 := (hw.cell (p := ⟨W.heap.size + 1, 1, none⟩) jl).trans j1
    have q2 := (hw.cell (p := ⟨W.heap.size + 1, 2, none⟩) jl).trans j2
    have q3 := (hw.cell (p := ⟨W.heap.size + 1, 3, none⟩) jl).trans j3
    clear hw
    go_simp
  try simp only [Act.put, List.getElem_toArray, List.getElem_cons_zero, List.getElem_cons_succ, List.setIfInBounds_toArray, List.set_cons_zero, List.set_cons_succ]
  refine wpAnyH_floats (S := fun w' => Below wb.heap.size wb w') (al := [4, 5, 6]) (dep := fun i => if i = 5 then [4] else []) (fuel := 1) (by decide) (by kernel_rfl) (by kernel_rfl) (fun x => ⟨#[.agg #[.int .i64 (c 0), .int .i64 (c 1), .int .i64 (c 2), .int .i64 (c 3), .int .i64 (c 4), .int .i64 (c 5), .int .i64 (c 6)], .int .i64 (used : Int), .agg #[V0, V1, V2, V3], .pointer (some ⟨W.heap.size, 0, none⟩), undef, .pointer (some ⟨W.heap.size + 1, 0, none⟩), .pointer (some ⟨W.heap.size + 1 + 1, 0, none⟩), .int .i64 0, .slice (some ⟨gw, 0, none⟩) N N, .int .i64 0, x 6, .tuple #[.slice (some ⟨gw, 0, none⟩) N N, .int .i64 0], .agg #[.int .i64 (c 0), .int .i64 (c 1), .int .i64 (c 2), .int .i64 (c 3), .int .i64 (c 4), .int .i64 (c 5), .int .i64 (c 6)], .int .i64 (used : Int), .tuple #[.slice (some ⟨gw, 0, none⟩) N N, .int .i64 0], .slice (some ⟨gw, 0, none⟩) N N, .int .i64 0, .int .i64 0, .bool false, undef, undef, .agg #[.int .i64 (c 0), .int .i64 (c 1), .int .i64 (c 2), .int .i64 (c 3), .int .i64 (c 4), .int .i64 (c 5), .int .i64 (c 6)], .int .i64 (used : Int), .agg #[V0, V1, V2, V3], .agg #[V0, V1, V2, V3], x 4, x 5, undef, undef, undef, undef, undef, undef], []⟩)
    (fun i v w => if i = 4 then (∃ (es : List Ev), (∃ a cap, v = .slice a es.length cap) ∧ es.Perm (evA cs tr sh) ∧ es.Pairwise (fun a b => ¬ Ev.lt b a) ∧ Sl w (fun k => wb.heap.size ≤ k) 4 v es.length (evs es)) else if i = 5 then (∃ (es : List Ev) (a : Option Addr) (cap : Nat), v = .agg #[.int .i64 (c 0), .int .i64 (c 1), .int .i64 (c 2), .int .i64 (c 3), .int .i64 (c 4), .int .i64 (c 5), .int .i64 (c 6), .int .i64 (used : Int), V0, V1, V2, V3, .slice a es.length cap] ∧ es.Perm (evA cs tr sh) ∧ es.Pairwise (fun a b => ¬ Ev.lt b a) ∧ Sl w (fun k => wb.heap.size ≤ k) 4 (.slice a es.length cap) es.length (evs es)) else ∃ b, v = .pointer (some ⟨b, 0, none⟩) ∧ wb.heap.size ≤ b ∧ w.heap[b]? = some (.cells #[.int .i64 0, .int .i64 0, .int .i64 0, .int .i64 0, .int .i64 0, .int .i64 0, .int .i64 0, .int .i64 0, .slice none 0 0, .slice none 0 0, .slice none 0 0, .slice none 0 0, .slice none 0 0] 78 (0, 0))) (fun _ => True) (fun _ => undef) wb.drew hS trivial ?_ ?_
  · intro i hi x d w hS _ hd hdp K hK
    have hkp : ∀ w2, Below w.heap.size w w2 → ∀ j ∈ d, (if j = 4 then (∃ (es : List Ev), (∃ a cap, x j = .slice a es.length cap) ∧ es.Perm (evA cs tr sh) ∧ es.Pairwise (fun a b => ¬ Ev.lt b a) ∧ Sl w2 (fun k => wb.heap.size ≤ k) 4 (x j) es.length (evs es)) else if j = 5 then (∃ (es : List Ev) (a : Option Addr) (cap : Nat), x j = .agg #[.int .i64 (c 0), .int .i64 (c 1), .int .i64 (c 2), .int .i64 (c 3), .int .i64 (c 4), .int .i64 (c 5), .int .i64 (c 6), .int .i64 (used : Int), V0, V1, V2, V3, .slice a es.length cap] ∧ es.Perm (evA cs tr sh) ∧ es.Pairwise (fun a b => ¬ Ev.lt b a) ∧ Sl w2 (fun k => wb.heap.size ≤ k) 4 (.slice a es.length cap) es.length (evs es)) else ∃ b, x j = .pointer (some ⟨b, 0, none⟩) ∧ wb.heap.size ≤ b ∧ w2.heap[b]? = some (.cells #[.int .i64 0, .int .i64 0, .int .i64 0, .int .i64 0, .int .i64 0, .int .i64 0, .int .i64 0, .int .i64 0, .slice none 0 0, .slice none 0 0, .slice none 0 0, .slice none 0 0, .slice none 0 0] 78 (0, 0))) := by
      intro w2 hB2 j hj
      have h := hd j hj
      by_cases e : j = 4
      · rw [if_pos e] at h ⊢
        obtain ⟨es, h1, h2, h3, h4⟩ := h
        exact ⟨es, h1, h2, h3, h4.below hB2⟩
      · rw [if_neg e] at h ⊢
        by_cases e5 : j = 5
        · rw [if_pos e5] at h ⊢
          obtain ⟨es, a, cap, h1, h2, h3, h4⟩ := h
          exact ⟨es, a, cap, h1, h2, h3, h4.below hB2⟩
        rw [if_neg e5] at h ⊢
        obtain ⟨b, h1, h2, h3⟩ := h
        exact ⟨b, h1, h2, (hB2.block b (Array.getElem?_eq_some_iff.1 h3).1).trans h3⟩
    replace hd := Mr.hid hd
    replace hkp := Mr.hid hkp
    replace hK := Mr.hid hK
    replace hS := Mr.hid hS
    simp only [List.mem_cons, List.not_mem_nil, or_false] at hi
    rcases hi with rfl | rfl | rfl
    · refine wpOp_step rfl (fun K' hK' => ?_)
      replace hK' := Mr.hid hK'
      try simp only [Act.put, List.getElem_toArray, List.getElem_cons_zero, List.getElem_cons_succ, List.setIfInBounds_toArray, List.set_cons_zero, List.set_cons_succ]
      go_simp
      refine (EC.out w hS.out).mono ?_
      rintro e w2 ⟨hB2, u, es, rfl, he1, he2, he3⟩
      obtain ⟨ua, uc, rfl, _⟩ := he3.form
      exact hK'.out _ _ (hK.out _ _ (hS.out.trans (hB2.mono hS.out.size)) trivial (hkp.out _ hB2) (by rw [if_pos rfl]; exact ⟨es, ⟨_, _, rfl⟩, he1, he2, he3.mono (fun k hk => Nat.le_trans hS.out.size hk)⟩))
    · have h4 := hkp.out w (Below.refl _ _) 4 (hdp 4 (by simp))
      rw [if_pos rfl] at h4
      obtain ⟨es, ⟨ua, uc, e4⟩, he1, he2, he3⟩ := h4
      rw [e4] at he3
      have hf := hK.out (.agg #[.int .i64 (c 0), .int .i64 (c 1), .int .i64 (c 2), .int .i64 (c 3), .int .i64 (c 4), .int .i64 (c 5), .int .i64 (c 6), .int .i64 (used : Int), V0, V1, V2, V3, .slice ua es.length uc]) w hS.out trivial (hkp.out _ (Below.refl _ _)) (by rw [if_neg (by decide), if_pos rfl]; exact ⟨es, ua, uc, rfl, he1, he2, he3⟩)
      have u4 : upd x 5 (.agg #[.int .i64 (c 0), .int .i64 (c 1), .int .i64 (c 2), .int .i64 (c 3), .int .i64 (c 4), .int .i64 (c 5), .int .i64 (c 6), .int .i64 (used : Int), V0, V1, V2, V3, .slice ua es.length uc]) 4 = .slice ua es.length uc := by rw [upd_ne x _ (by decide)]; exact e4
      have u5 : upd x 5 (.agg #[.int .i64 (c 0), .int .i64 (c 1), .int .i64 (c 2), .int .i64 (c 3), .int .i64 (c 4), .int .i64 (c 5), .int .i64 (c 6), .int .i64 (used : Int), V0, V1, V2, V3, .slice ua es.length uc]) 5 = .agg #[.int .i64 (c 0), .int .i64 (c 1), .int .i64 (c 2), .int .i64 (c 3), .int .i64 (c 4), .int .i64 (c 5), .int .i64 (c 6), .int .i64 (used : Int), V0, V1, V2, V3, .slice ua es.length uc] := upd_self _ _ _
      have u6 : upd x 5 (.agg #[.int .i64 (c 0), .int .i64 (c 1), .int .i64 (c 2), .int .i64 (c 3), .int .i64 (c 4), .int .i64 (c 5), .int .i64 (c 6), .int .i64 (used : Int), V0, V1, V2, V3, .slice ua es.length uc]) 6 = x 6 := upd_ne x _ (by decide)
      simp only [u4, u5, u6] at hf
      clear u4 u5 u6
      replace hf := Mr.hid hf
      refine wpOp_step rfl (fun K' hK' => ?_)
      replace hK' := Mr.hid hK'
      simp only [e4]
      try simp only [Act.put, List.getElem_toArray, List.getElem_cons_zero, List.getElem_cons_succ, List.setIfInBounds_toArray, List.set_cons_zero, List.set_cons_succ]
      go_simp
      exact hK'.out _ _ hf.out
    · refine wpOp_step rfl (fun K' hK' => ?_)
      replace hK' := Mr.hid hK'
      try simp only [Act.put, List.getElem_toArray, List.getElem_cons_zero, List.getElem_cons_succ, List.setIfInBounds_toArray, List.set_cons_zero, List.set_cons_succ]
      go_simp
      exact hK'.out _ _ (hK.out _ _ (hS.out.alloc hS.out.size _) trivial (hkp.out _ ((Below.refl _ _).alloc (Nat.le_refl _) _)) (by rw [if_neg (by decide), if_neg (by decide)]; exact ⟨_, rfl, hS.out.size, new_at _ _ _ rfl⟩))
  · intro x w hS _ hΦ
    have h4 := hΦ 5 (by simp)
    have h6 := hΦ 6 (by simp)
    rw [if_neg (by decide), if_pos rfl] at h4
    rw [if_neg (by decide), if_neg (by decide)] at h6
    obtain ⟨es, ua, uc, e4, he1, he2, he3⟩ := h4
    obtain ⟨b, e6, hb1, hb2⟩ := h6
    simp only [e4, e6]
    clear hΦ e4 e6
    generalize x 4 = x4
    obtain ⟨a0, p0, rfl, _⟩ := hr.out.calls.form
    obtain ⟨a1, p1, rfl, _⟩ := hr.out.trace.form
    obtain ⟨a2, p2, rfl, _⟩ := hr.out.shifts.form
    obtain ⟨a3, p3, rfl, _⟩ := hr.out.words.form
    have cc := fun k => cell_blk hb2 k
    have zf : ∀ k, w.frozen? ⟨b, k, none⟩ = false := fun k => by simp [World.frozen?, hb2]
    have zl := (Array.getElem?_eq_some_iff.1 hb2).1
    have hF5 : Fr w (putL w b 0 [.int .i64 (c 0), .int .i64 (c 1), .int .i64 (c 2), .int .i64 (c 3), .int .i64 (c 4), .int .i64 (c 5), .int .i64 (c 6), .int .i64 (used : Int), .slice a0 cs.length p0, .slice a1 tr.length p1, .slice a2 sh.length p2, .slice a3 wl.length p3, .slice ua es.length uc]) (fun k => k = b) := putL_fr b _ w 0
    have hfull : Hid ((putL w b 0 [.int .i64 (c 0), .int .i64 (c 1), .int .i64 (c 2), .int .i64 (c 3), .int .i64 (c 4), .int .i64 (c 5), .int .i64 (c 6), .int .i64 (used : Int), .slice a0 cs.length p0, .slice a1 tr.length p1, .slice a2 sh.length p2, .slice a3 wl.length p3, .slice ua es.length uc]).heap[b]? = some (stO c used (.slice a0 cs.length p0) (.slice a1 tr.length p1) (.slice a2 sh.length p2) (.slice a3 wl.length p3) (.slice ua es.length uc))) := by
      have h := putL_box (b := b) [.int .i64 (c 0), .int .i64 (c 1), .int .i64 (c 2), .int .i64 (c 3), .int .i64 (c 4), .int .i64 (c 5), .int .i64 (c 6), .int .i64 (used : Int), .slice a0 cs.length p0, .slice a1 tr.length p1, .slice a2 sh.length p2, .slice a3 wl.length p3, .slice ua es.length uc] 0 hb2
      have e := set13 (.int .i64 (c 0)) (.int .i64 (c 1)) (.int .i64 (c 2)) (.int .i64 (c 3)) (.int .i64 (c 4)) (.int .i64 (c 5)) (.int .i64 (c 6)) (.int .i64 (used : Int)) (.slice a0 cs.length p0) (.slice a1 tr.length p1) (.slice a2 sh.length p2) (.slice a3 wl.length p3) (.slice ua es.length uc) [.int .i64 0, .int .i64 0, .int .i64 0, .int .i64 0, .int .i64 0, .int .i64 0, .int .i64 0, .int .i64 0, .slice none 0 0, .slice none 0 0, .slice none 0 0, .slice none 0 0, .slice none 0 0] rfl
      rw [e] at h
      exact h
    have hBx : Hid (Below wb.heap.size wb (putL w b 0 [.int .i64 (c 0), .int .i64 (c 1), .int .i64 (c 2), .int .i64 (c 3), .int .i64 (c 4), .int .i64 (c 5), .int .i64 (c 6), .int .i64 (used : Int), .slice a0 cs.length p0, .slice a1 tr.length p1, .slice a2 sh.length p2, .slice a3 wl.length p3, .slice ua es.length uc])) := ⟨hF5.os.trans hS.os, hF5.tape.trans hS.tape, hF5.output.trans hS.output, Nat.le_trans hS.size hF5.size, fun k hk => (hF5.block k (Nat.lt_of_lt_of_le hk hS.size) (by omega)).trans (hS.block k hk)⟩
    have he4 : Hid (Sl (putL w b 0 [.int .i64 (c 0), .int .i64 (c 1), .int .i64 (c 2), .int .i64 (c 3), .int .i64 (c 4), .int .i64 (c 5), .int .i64 (c 6), .int .i64 (used : Int), .slice a0 cs.length p0, .slice a1 tr.length p1, .slice a2 sh.length p2, .slice a3 wl.length p3, .slice ua es.length uc]) (fun k => wb.heap.size ≤ k) 4 (.slice ua es.length uc) es.length (evs es)) :=
      ((sl_apart he3 (fun e he => ev_kd (he1.mem_iff.1 he)) hb2).fr hF5 (fun k hk _ e => hk.2 e)).mono (fun k hk => hk.1)
    replace hF5 := Mr.hid hF5
    simp only [putL, Nat.zero_add] at hF5 hfull hBx he4
    refine wpAnyH_ready (rs := [7]) (by kernel_rfl) (by simp) ?_
    refine AllReadyH.cons rfl (fun K hK => ?_) AllReadyH.nil
    have z0 := cc 0
    have z1 := cc 1
    have z2 := cc 2
    have z3 := cc 3
    have z4 := cc 4
    have z5 := cc 5
    have z6 := cc 6
    have z7 := cc 7
    have z8 := cc 8
    have z9 := cc 9
    have z10 := cc 10
    have z11 := cc 11
    have z12 := cc 12
    simp at z0 z1 z2 z3 z4 z5 z6 z7 z8 z9 z10 z11 z12
    clear cc
    try simp only [Act.put, List.getElem_toArray, List.getElem_cons_zero, List.getElem_cons_succ, List.setIfInBounds_toArray, List.set_cons_zero, List.set_cons_succ]
    go_simp
    refine hK.out _ _ hBx.out (fun hS => ?_)
    clear hK K z0 z1 z2 z3 z4 z5 z6 z7 z8 z9 z10 z11 z12 zf zl
    try simp only [Act.put, List.getElem_toArray, List.getElem_cons_zero, List.getElem_cons_succ, List.setIfInBounds_toArray, List.set_cons_zero, List.set_cons_succ]
    refine wpAnyH_done (by kernel_rfl) ?_ _
    clear hS
    generalize (((((((((((((w.setCell _ _).setCell _ _).setCell _ _).setCell _ _).setCell _ _).setCell _ _).setCell _ _).setCell _ _).setCell _ _).setCell _ _).setCell _ _).setCell _ _).setCell _ _) = w5 at *
    have hRd := Mr.hid (R2.out.below hBx.out)
    have hwl := hwd.out.lt
    have hgn : b ≠ gw := by omega
    have hR5 : RunAt w5 (fun k => T k ∧ k < W.heap.size) (.slice a0 cs.length p0) (.slice a1 tr.length p1) (.slice a2 sh.length p2) (.slice a3 wl.length p3) cs tr sh wl := (hr.out.lt).below (R2.out.bel.trans (hBx.out.mono R2.out.bel.size))
    have hpe := hpass.out es he1 he2
    have hlen5 : es.length ≤ 2 * cs.length + tr.length + sh.length := by
      rw [he1.length_eq]; unfold evA; rw [List.length_append, List.length_append, evT_len, evS_len]; have := evC_len cs 0; omega
    have hsz1 := hsz.out
    have hsm : es.length * 32 ≤ 281474976710656 := by omega
    have hcl : cs.length ≤ 1000000000000000 := by omega
    have GC := Mr.hid (goes_true (W := w5) (T := fun k => T k ∧ k < W.heap.size) (Te := fun k => wb.heap.size ≤ k) (gw := gw) (wd := fstL c used N) (used := used) hR5 (fun k hk e => by have := hgb.out; omega) (hwd.out.below hBx.out) (by rw [fstL_len]; omega) (by rw [fstL_len]; exact hlen.out) hc5.out hn hu hc0.out he4.out (fun k hk e => by omega) hsm (by omega) hpe.1 hok.out hpe.2)
    rw [fstL_len] at GC
    unfold stV at GC
    obtain ⟨sl, s0, s1, s2, s3, s4, s5, s6, s7, s8, s9, s10, s11, s12⟩ := stO_cells hfull.out
    simp only [Nat.zero_add] at s0 s1 s2 s3 s4 s5 s6 s7 s8 s9 s10 s11 s12
    clear hsz1 hlen5 hsm hcl j0 j1 j2 j3 jl k0 k1 k2 k3 k4 k5 k6 kl he3 hb2
    replace hpe := Mr.hid hpe
    replace hR5 := Mr.hid hR5
    go_upto_region 7 with (go_at_call 78; refine GC.out.mono ?_; clear GC; rintro e w6 ⟨rfl, hF6⟩; replace hF6 := Mr.hid hF6; clear sl s0 s1 s2 s3 s4 s5 s6 s7 s8 s9 s10 s11 s12)
    have hb5 := (Array.getElem?_eq_some_iff.1 hfull.out).1
    have hfu6 : Hid (w6.heap[b]? = some (stO c used (.slice a0 cs.length p0) (.slice a1 tr.length p1) (.slice a2 sh.length p2) (.slice a3 wl.length p3) (.slice ua es.length uc))) := (hF6.out.block b hb5 hgn).trans hfull.out
    have hl2 := (Array.getElem?_eq_some_iff.1 hRd.out.b2).1
    have hr6 : w6.heap[W.heap.size + 1 + 1]? = some (.cells #[.int .i64 0, .int .i64 0, .int .i64 0, .int .i64 0, .int .i64 0, .int .i64 0, .int .i64 0, .int .i64 0, .slice none 0 0, .slice none 0 0, .slice none 0 0, .slice none 0 0, .slice none 0 0] 78 (0, 0)) := (hF6.out.block _ hl2 (fun e => by have := hgb.out; omega)).trans hRd.out.b2
    obtain ⟨sl, s0, s1, s2, s3, s4, s5, s6, s7, s8, s9, s10, s11, s12⟩ := stO_cells hfu6.out
    simp only [Nat.zero_add] at s0 s1 s2 s3 s4 s5 s6 s7 s8 s9 s10 s11 s12
    have cc := fun k => cell_blk hr6 k
    have zf : ∀ k, w6.frozen? ⟨W.heap.size + 1 + 1, k, none⟩ = false := fun k => by simp [World.frozen?, hr6]
    have z0 := cc 0
    have z1 := cc 1
    have z2 := cc 2
    have z3 := cc 3
    have z4 := cc 4
    have z5 := cc 5
    have z6 := cc 6
    have z7 := cc 7
    have z8 := cc 8
    have z9 := cc 9
    have z10 := cc 10
    have z11 := cc 11
    have z12 := cc 12
    simp at z0 z1 z2 z3 z4 z5 z6 z7 z8 z9 z10 z11 z12
    clear cc
    have zl := (Array.getElem?_eq_some_iff.1 hr6).1
    have nbr : b ≠ W.heap.size + 1 + 1 := by have := (Array.getElem?_eq_some_iff.1 R2.out.b2).1; omega
    have nbr' := Ne.symm nbr
    have hF7 := Mr.hid (putL_fr (W.heap.size + 1 + 1) [.int .i64 (c 0), .int .i64 (c 1), .int .i64 (c 2), .int .i64 (c 3), .int .i64 (c 4), .int .i64 (c 5), .int .i64 (c 6), .int .i64 (used : Int), .slice a0 cs.length p0, .slice a1 tr.length p1, .slice a2 sh.length p2, .slice a3 wl.length p3, .slice ua es.length uc] w6 0)
    have hfin : Hid ((putL w6 (W.heap.size + 1 + 1) 0 [.int .i64 (c 0), .int .i64 (c 1), .int .i64 (c 2), .int .i64 (c 3), .int .i64 (c 4), .int .i64 (c 5), .int .i64 (c 6), .int .i64 (used : Int), .slice a0 cs.length p0, .slice a1 tr.length p1, .slice a2 sh.length p2, .slice a3 wl.length p3, .slice ua es.length uc]).heap[W.heap.size + 1 + 1]? = some (stO c used (.slice a0 cs.length p0) (.slice a1 tr.length p1) (.slice a2 sh.length p2) (.slice a3 wl.length p3) (.slice ua es.length uc))) := by
      have h := putL_box (b := W.heap.size + 1 + 1) [.int .i64 (c 0), .int .i64 (c 1), .int .i64 (c 2), .int .i64 (c 3), .int .i64 (c 4), .int .i64 (c 5), .int .i64 (c 6), .int .i64 (used : Int), .slice a0 cs.length p0, .slice a1 tr.length p1, .slice a2 sh.length p2, .slice a3 wl.length p3, .slice ua es.length uc] 0 hr6
      have e := set13 (.int .i64 (c 0)) (.int .i64 (c 1)) (.int .i64 (c 2)) (.int .i64 (c 3)) (.int .i64 (c 4)) (.int .i64 (c 5)) (.int .i64 (c 6)) (.int .i64 (used : Int)) (.slice a0 cs.length p0) (.slice a1 tr.length p1) (.slice a2 sh.length p2) (.slice a3 wl.length p3) (.slice ua es.length uc) [.int .i64 0, .int .i64 0, .int .i64 0, .int .i64 0, .int .i64 0, .int .i64 0, .int .i64 0, .int .i64 0, .slice none 0 0, .slice none 0 0, .slice none 0 0, .slice none 0 0, .slice none 0 0] rfl
      rw [e] at h
      exact h
    simp only [putL, Nat.zero_add] at hF7 hfin
    replace hr6 := Mr.hid hr6
    go_wp2
    clear z0 z1 z2 z3 z4 z5 z6 z7 z8 z9 z10 z11 z12 zf zl sl s0 s1 s2 s3 s4 s5 s6 s7 s8 s9 s10 s11 s12
    generalize (((((((((((((w6.setCell _ _).setCell _ _).setCell _ _).setCell _ _).setCell _ _).setCell _ _).setCell _ _).setCell _ _).setCell _ _).setCell _ _).setCell _ _).setCell _ _).setCell _ _) = w7 at *
    obtain ⟨sl, s0, s1, s2, s3, s4, s5, s6, s7, s8, s9, s10, s11, s12⟩ := stO_cells hfin.out
    simp only [Nat.zero_add] at s0 s1 s2 s3 s4 s5 s6 s7 s8 s9 s10 s11 s12
    refine bodyPost_ret (v := .tuple #[.agg #[.int .i64 (c 0), .int .i64 (c 1), .int .i64 (c 2), .int .i64 (c 3), .int .i64 (c 4), .int .i64 (c 5), .int .i64 (c 6), .int .i64 (used : Int), .slice a0 cs.length p0, .slice a1 tr.length p1, .slice a2 sh.length p2, .slice a3 wl.length p3, .slice ua es.length uc], .int .i64 0]) (by simp [results, Tryz.results42, go_sem, s0, s1, s2, s3, s4, s5, s6, s7, s8, s9, s10, s11, s12]) rfl ?_
    have hB5 : Below W.heap.size W w5 := R2.out.bel.trans (hBx.out.mono R2.out.bel.size)
    have hB6 : Below W.heap.size W w6 := ⟨hF6.out.os.trans hB5.os, hF6.out.tape.trans hB5.tape, hF6.out.output.trans hB5.output, Nat.le_trans hB5.size hF6.out.size, fun k hk => (hF6.out.block k (Nat.lt_of_lt_of_le hk hB5.size) (fun e => by have := hgb.out; omega)).trans (hB5.block k hk)⟩
    refine ⟨⟨hF7.out.os.trans hB6.os, hF7.out.tape.trans hB6.tape, hF7.out.output.trans hB6.output, Nat.le_trans hB6.size hF7.out.size, fun k hk => (hF7.out.block k (Nat.lt_of_lt_of_le hk hB6.size) (by omega)).trans (hB6.block k hk)⟩, _, es, rfl, he1, he2, ?_⟩
    have hle := R2.out.bel.size
    exact (((he4.out.fr hF6.out (fun k hk _ e => by omega)).fr hF7.out (fun k hk _ e => by have := (Array.getElem?_eq_some_iff.1 R2.out.b2).1; omega))).mono (fun k hk => by omega)
end Go.Proofs.YtpknggcgojkjgaaGreat.Cn
