import Derived.Test.YtkimmfdicohoiaaGreatJ38
import Derived.Test.YtkimmfdicohoiaaGreatJ12
/-
  awake of reclaimlaw04: a slot is taken in three steps, and given back in three.
-/
namespace Go.Proofs.YtkimmfdicohoiaaGreat.Ar
open Go.RowKit Go.Shelf Mr Me Ma Wc Wm Wr
def awc : Cf := ⟨1, 1, 3, 1, 0, 2, 1⟩
def awm : List Mv := [⟨0, 10, 0, 0⟩, ⟨0, 0, 0, 0⟩, ⟨0, 0, 0, 0⟩, ⟨0, 0, 0, 0⟩, ⟨0, 11, 0, 0⟩, ⟨0, 0, 0, 0⟩, ⟨0, 0, 0, 0⟩, ⟨0, 0, 0, 0⟩]
theorem aw_cls : ((Pa.first awc 2 1 19 11 0).play awm).cls = [⟨0, 10, 0, 0, 0, 3, -1, 2, 0⟩, ⟨0, 11, 0, 0, 4, 7, -1, 1, 0⟩] := by kernel_rfl
theorem aw_lg : ((Pa.first awc 2 1 19 11 0).play awm).lg.length = 6 := by kernel_rfl
theorem aw_shs : ((Pa.first awc 2 1 19 11 0).play awm).shs.length = 2 := by kernel_rfl
theorem aw_ws : ((Pa.first awc 2 1 19 11 0).play awm).ws.length = 19 := by kernel_rfl
def awo : Obj := .cells #[.int .i64 0, .int .i64 10, .int .i64 0, .int .i64 0, .int .i64 0, .int .i64 0, .int .i64 0, .int .i64 0, .int .i64 0, .int .i64 0, .int .i64 0, .int .i64 0, .int .i64 0, .int .i64 0, .int .i64 0, .int .i64 0, .int .i64 0, .int .i64 11, .int .i64 0, .int .i64 0, .int .i64 0, .int .i64 0, .int .i64 0, .int .i64 0, .int .i64 0, .int .i64 0, .int .i64 0, .int .i64 0, .int .i64 0, .int .i64 0, .int .i64 0, .int .i64 0] 55
theorem aw_at (w : World) : MvAt (w.alloc awo) (some ⟨w.heap.size, 0, none⟩) 8 awm := by
  refine ⟨rfl, .inr ⟨_, 0, rfl, by simp, fun j hj => ?_⟩⟩
  have hb : (w.alloc awo).heap[w.heap.size]? = some awo := heap_alloc_new w _
  generalize w.alloc awo = W at *
  have hj' : j = 0 ∨ j = 1 ∨ j = 2 ∨ j = 3 ∨ j = 4 ∨ j = 5 ∨ j = 6 ∨ j = 7 := by simp [awm] at hj; omega
  rcases hj' with rfl | rfl | rfl | rfl | rfl | rfl | rfl | rfl <;> simp [World.cell?, hb, awo, awm]
/-- The example, played. -/
theorem aw_play (w : World) : Calls Tryz.prog 7 #[.agg #[.int .i64 1, .int .i64 1, .int .i64 3, .int .i64 1, .int .i64 0, .int .i64 2, .int .i64 1], .slice (some ⟨w.heap.size, 0, none⟩) 8 8] (w.alloc awo) fun e w' => ∃ g1 c1 p2 n2 c2 g3 c3 p4 n4 c4, e = .returned (.tuple #[.agg #[.slice (some ⟨g1, 0, none⟩) 2 c1, .slice p2 n2 c2, .slice (some ⟨g3, 0, none⟩) 2 c3, .slice p4 n4 c4], .int .i64 0]) ∧ g1 < w'.heap.size ∧ ((w'.cell? ⟨g1, 0, none⟩ = some (.int .i64 0) ∧ w'.cell? ⟨g1, 1, none⟩ = some (.int .i64 10) ∧ w'.cell? ⟨g1, 2, none⟩ = some (.int .i64 0) ∧ w'.cell? ⟨g1, 3, none⟩ = some (.int .i64 0) ∧ w'.cell? ⟨g1, 4, none⟩ = some (.int .i64 0) ∧ w'.cell? ⟨g1, 5, none⟩ = some (.int .i64 3) ∧ w'.cell? ⟨g1, 6, none⟩ = some (.int .i64 (-1)) ∧ w'.cell? ⟨g1, 7, none⟩ = some (.int .i64 2) ∧ w'.cell? ⟨g1, 8, none⟩ = some (.int .i64 0)) ∧ w'.cell? ⟨g1, 14, none⟩ = some (.int .i64 7)) ∧ Below w.heap.size w w' := by
  refine (play_ok _ awc rfl 2 1 19 11 0 rfl rfl rfl rfl rfl (by decide) _ _ 8 _ (aw_at w) (by decide)).mono ?_
  rintro e w' ⟨v1, v2, v3, v4, rfl, hv1, hv2, hv3, hv4, hB⟩
  rw [aw_cls] at hv1
  rw [aw_shs] at hv3
  obtain ⟨g1, c1, rfl, _, l1, _⟩ := hv1.there (by decide)
  obtain ⟨g3, c3, rfl, _, l3, _⟩ := hv3.there (by decide)
  obtain ⟨p2, c2, rfl, _⟩ := hv2.form
  obtain ⟨p4, c4, rfl, _⟩ := hv4.form
  have k1 := hv1.cells (g := g1) rfl
  refine ⟨g1, c1, p2, _, c2, g3, c3, p4, _, c4, rfl, l1, ⟨⟨k1 0 _ rfl, k1 1 _ rfl, k1 2 _ rfl, k1 3 _ rfl, k1 4 _ rfl, k1 5 _ rfl, k1 6 _ rfl, k1 7 _ rfl, k1 8 _ rfl⟩, k1 14 _ rfl⟩, ?_⟩
  simp only [World.size_alloc] at hB
  exact ((Below.refl w.heap.size w).alloc (Nat.le_refl _) _).trans (hB.mono (by omega))
theorem num_any (n : Int) (w : World) : Calls Tryz.prog 9 #[.int .i64 n] w fun e w' => e = .returned (.int .i64 n) ∧ w' = w := by
  go_enter Tryz.func9, Tryz.ntmps9
  go_wp2
  go_ret
  exact ⟨rfl, rfl⟩
set_option maxRecDepth 100000 in
set_option maxHeartbeats 1000000 in
theorem awake_any (w : World) : Calls Tryz.prog 37 #[] w fun e w' => e = .returned (.bool true) ∧ Below w.heap.size w w' := by
  have P := aw_play ((w.alloc (.cells #[.int .i64 1, .int .i64 1, .int .i64 3, .int .i64 1, .int .i64 0, .int .i64 2, .int .i64 1] 23)).alloc (.cells #[.int .i64 0, .int .i64 0, .int .i64 0, .int .i64 0] 55))
  unfold awo at P
  simp only [World.size_alloc] at P
  have hB0 : Below w.heap.size w ((w.alloc (.cells #[.int .i64 1, .int .i64 1, .int .i64 3, .int .i64 1, .int .i64 0, .int .i64 2, .int .i64 1] 23)).alloc (.cells #[.int .i64 0, .int .i64 0, .int .i64 0, .int .i64 0] 55)) := ((Below.refl w.heap.size w).alloc (Nat.le_refl _) _).alloc (by simp) _
  go_enter Tryz.func37, Tryz.ntmps37
  go_wp2_with (first | (go_at_call 9; refine (num_any _ _).mono ?_; rintro e wn ⟨rfl, rfl⟩) | (go_at_call 7; refine P.mono ?_; clear P; rintro e w1 ⟨g1, c1, p2, n2, c2, g3, c3, p4, n4, c4, rfl, l1, ⟨⟨k0, k1, k2, k3, k4, k5, k6, k7, k8⟩, k14⟩, hB⟩; replace hB := hB0.trans (hB.mono (by omega)); clear hB0))
  go_ret
  exact ⟨rfl, hB.alloc hB.size _⟩
end Go.Proofs.YtkimmfdicohoiaaGreat.Ar
/-
  What the laws of layer 4 keep: the configuration's box, the run's box, the run's rows.
-/
namespace Go.Proofs.YtkimmfdicohoiaaGreat.Ar
open Go.RowKit Go.Shelf Mr Me Ma Wc Wm Wr
structure Ka (w W : World) (c : Cf) (B : Nat) (v1 v2 v3 v4 : Value) (P : Pa) : Prop where
  bel : Below w.heap.size w W
  s0 : W.heap[w.heap.size]? = some (cfO c)
  lt : w.heap.size < B
  r0 : W.heap[B]? = some (.cells #[v1, v2, v3, v4] 30 (0, 0))
  h1 : Has W (fun k => w.heap.size < k ∧ k < B) 90 9 v1 P.cls.length (clc P.cls)
  h2 : Has W (fun k => w.heap.size < k ∧ k < B) 94 7 v2 P.lg.length (lgc P.lg)
  h3 : Has W (fun k => w.heap.size < k ∧ k < B) 96 5 v3 P.shs.length (shc P.shs)
  h4 : Has W (fun k => w.heap.size < k ∧ k < B) 92 1 v4 P.ws.length (wrd P.ws)
section
variable {w W W' : World} {c : Cf} {B : Nat} {v1 v2 v3 v4 : Value} {P : Pa}
theorem Ka.below (h : Ka w W c B v1 v2 v3 v4 P) (hB : Below W.heap.size W W') : Ka w W' c B v1 v2 v3 v4 P :=
  have g : ∀ k o, W.heap[k]? = some o → W'.heap[k]? = some o := fun k _ hk => (hB.block k (Array.getElem?_eq_some_iff.1 hk).1).trans hk
  ⟨h.bel.trans (hB.mono h.bel.size), g _ _ h.s0, h.lt, g _ _ h.r0, h.h1.below hB, h.h2.below hB, h.h3.below hB, h.h4.below hB⟩
/-- A write above B. -/
theorem Ka.set (h : Ka w W c B v1 v2 v3 v4 P) (p : Addr) (hp : B < p.block) (u : Value) : Ka w (W.setCell p u) c B v1 v2 v3 v4 P :=
  have hlt := h.lt
  have hh : ∀ {e size m : Nat} {v : Value} {xs : List Value}, Has W (fun k => w.heap.size < k ∧ k < B) e size v m xs → Has (W.setCell p u) (fun k => w.heap.size < k ∧ k < B) e size v m xs := fun hv => hv.setCell p u (fun e => by have := (hv.lt _ e).1; omega)
  ⟨h.bel.setCell (p := p) (by omega) u, (Below.heap_setCell _ _ _ _ (by omega)).trans h.s0, hlt, (Below.heap_setCell _ _ _ _ (by omega)).trans h.r0, hh h.h1, hh h.h2, hh h.h3, hh h.h4⟩
theorem Ka.cells (h : Ka w W c B v1 v2 v3 v4 P) : (W.cell? ⟨w.heap.size, 0, none⟩ = some (.int .i64 c.a0) ∧ W.cell? ⟨w.heap.size, 1, none⟩ = some (.int .i64 c.a1) ∧ W.cell? ⟨w.heap.size, 2, none⟩ = some (.int .i64 c.a2) ∧ W.cell? ⟨w.heap.size, 3, none⟩ = some (.int .i64 c.a3) ∧ W.cell? ⟨w.heap.size, 4, none⟩ = some (.int .i64 c.a4) ∧ W.cell? ⟨w.heap.size, 5, none⟩ = some (.int .i64 c.a5) ∧ W.cell? ⟨w.heap.size, 6, none⟩ = some (.int .i64 c.a6)) ∧ W.cell? ⟨B, 0, none⟩ = some v1 ∧ W.cell? ⟨B, 1, none⟩ = some v2 ∧ W.cell? ⟨B, 2, none⟩ = some v3 ∧ W.cell? ⟨B, 3, none⟩ = some v4 := by
  have h0 := h.s0
  have hr := h.r0
  simp [cfO] at h0
  simp [World.cell?, h0, hr]
theorem Ka.size (h : Ka w W c B v1 v2 v3 v4 P) : B < W.heap.size := (Array.getElem?_eq_some_iff.1 h.r0).1
/-- The run's box is made behind the call. -/
theorem ka_open {W1 : World} (hs : W.heap[w.heap.size]? = some (cfO c)) (hB : Below w.heap.size w W) (hB1 : Below W.heap.size W W1)
    (h1 : Has W1 (fun k => W.heap.size ≤ k) 90 9 v1 P.cls.length (clc P.cls)) (h2 : Has W1 (fun k => W.heap.size ≤ k) 94 7 v2 P.lg.length (lgc P.lg)) (h3 : Has W1 (fun k => W.heap.size ≤ k) 96 5 v3 P.shs.length (shc P.shs)) (h4 : Has W1 (fun k => W.heap.size ≤ k) 92 1 v4 P.ws.length (wrd P.ws)) :
    Ka w (W1.alloc (.cells #[v1, v2, v3, v4] 30)) c W1.heap.size v1 v2 v3 v4 P := by
  have hl : w.heap.size < W.heap.size := (Array.getElem?_eq_some_iff.1 hs).1
  have hl1 := hB1.size
  have hBa := (Below.refl W1.heap.size W1).alloc (Nat.le_refl _) (.cells #[v1, v2, v3, v4] 30)
  have hh : ∀ {e size m : Nat} {v : Value} {xs : List Value}, Has W1 (fun k => W.heap.size ≤ k) e size v m xs → Has (W1.alloc (.cells #[v1, v2, v3, v4] 30)) (fun k => w.heap.size < k ∧ k < W1.heap.size) e size v m xs := fun hv =>
    hv.kept (fun k hk => hBa.block k (hv.lt k hk).2) (fun k hk => ⟨by have := (hv.lt k hk).1; omega, (hv.lt k hk).2⟩)
  exact ⟨(hB.trans (hB1.mono (by omega))).trans (hBa.mono (by omega)), (hBa.block _ (by omega)).trans ((hB1.block _ hl).trans hs), by omega, heap_alloc_new W1 _, hh h1, hh h2, hh h3, hh h4⟩
end
/-- An access's seven cells. -/
theorem ac_cells {W : World} {S : Nat → Prop} {g n cap : Nat} {l : List Acc} (h : Has W S 94 7 (.slice (some ⟨g, 0, none⟩) n cap) n (lgc l)) {j : Nat} {a : Acc} (ha : l[j]? = some a) :
    W.cell? ⟨g, j * 7, none⟩ = some (.int .i64 a.mv) ∧ W.cell? ⟨g, j * 7 + 1, none⟩ = some (.int .i64 a.th) ∧ W.cell? ⟨g, j * 7 + 2, none⟩ = some (.int .i64 a.kd) ∧ W.cell? ⟨g, j * 7 + 3, none⟩ = some (.int .i64 a.ad) ∧ W.cell? ⟨g, j * 7 + 4, none⟩ = some (.int .u64 a.old) ∧ W.cell? ⟨g, j * 7 + 5, none⟩ = some (.int .u64 a.new) ∧ W.cell? ⟨g, j * 7 + 6, none⟩ = some (.int .u64 a.saw) := by
  have hce : ∀ t (_ : t < 7) u, a.cells[t]? = some u → W.cell? ⟨g, j * 7 + t, none⟩ = some u := fun t ht u hu => h.cells (g := g) rfl (j * 7 + t) u (by rw [lgc, flat_get (f := Acc.cells) (m := 7) (fun _ => rfl) l j t a ha ht]; exact hu)
  exact ⟨hce 0 (by decide) _ rfl, hce 1 (by decide) _ rfl, hce 2 (by decide) _ rfl, hce 3 (by decide) _ rfl, hce 4 (by decide) _ rfl, hce 5 (by decide) _ rfl, hce 6 (by decide) _ rfl⟩
theorem cl_cells {W : World} {S : Nat → Prop} {g n cap : Nat} {l : List Cl} (h : Has W S 90 9 (.slice (some ⟨g, 0, none⟩) n cap) n (clc l)) {j : Nat} {cl : Cl} (hcl : l[j]? = some cl) :
    W.cell? ⟨g, j * 9, none⟩ = some (.int .i64 cl.th) ∧ W.cell? ⟨g, j * 9 + 1, none⟩ = some (.int .i64 cl.op) ∧ W.cell? ⟨g, j * 9 + 2, none⟩ = some (.int .i64 cl.arg) ∧ W.cell? ⟨g, j * 9 + 3, none⟩ = some (.int .i64 cl.data) ∧ W.cell? ⟨g, j * 9 + 4, none⟩ = some (.int .i64 cl.beg) ∧ W.cell? ⟨g, j * 9 + 5, none⟩ = some (.int .i64 cl.fin) ∧ W.cell? ⟨g, j * 9 + 6, none⟩ = some (.int .i64 cl.pt) ∧ W.cell? ⟨g, j * 9 + 7, none⟩ = some (.int .i64 cl.ak) ∧ W.cell? ⟨g, j * 9 + 8, none⟩ = some (.int .i64 cl.av) := by
  have hce : ∀ t (_ : t < 9) u, cl.cells[t]? = some u → W.cell? ⟨g, j * 9 + t, none⟩ = some u := fun t ht u hu => h.cells (g := g) rfl (j * 9 + t) u (by rw [clc, flat_get (f := Cl.cells) (m := 9) (fun _ => rfl) l j t cl hcl ht]; exact hu)
  exact ⟨hce 0 (by decide) _ rfl, hce 1 (by decide) _ rfl, hce 2 (by decide) _ rfl, hce 3 (by decide) _ rfl, hce 4 (by decide) _ rfl, hce 5 (by decide) _ rfl, hce 6 (by decide) _ rfl, hce 7 (by decide) _ rfl, hce 8 (by decide) _ rfl⟩
def its (l : List Int) : List Value := l.map (Value.int .i64)
theorem its_get (l : List Int) (i : Nat) (b : Int) (h : l[i]? = some b) : (its l)[i]? = some (.int .i64 b) := by simp [its, h]
theorem its_set (l : List Int) (i : Nat) (b : Int) : (its l).set i (.int .i64 b) = its (l.set i b) := by simp [its, List.map_set]
theorem info_i : (Tryz.prog.info? 3).map (fun i => (i.zero, i.size, i.bytes)) = some (some (.int .i64 0), 1, 8) := by kernel_rfl
theorem make_its (W : World) (n : Nat) (hn : n ≤ 100000) :
    (Instr.makeSlice 69 (.int .i64 (n : Int)) (.int .i64 (n : Int))).run Tryz.prog W = .ok (.slice (some ⟨W.heap.size, 0, none⟩) n n) (W.alloc (.cells (madeCells #[.int .i64 0] n) 3)) := by
  obtain ⟨i0, hi, hz0, hz1, hz2⟩ := info_parts info_i
  have h := run_make (P := Tryz.prog) W 69 3 i0 (.int .i64 0) Tryz.underlying69 hi hz0 .i64 .i64 n n (by omega) (Int.le_refl _) (by rw [hz2]; omega) (by omega)
  rw [hz1, Nat.mul_one] at h
  simpa [Value.cells] using h
theorem made_its (W : World) (S : Nat → Prop) (n : Nat) (hn : n ≤ 100000) (hS : S W.heap.size) : Has (W.alloc (.cells (madeCells #[.int .i64 0] n) 3)) S 3 1 (.slice (some ⟨W.heap.size, 0, none⟩) n n) n (its (List.replicate n 0)) := by
  refine ⟨by simp [its], .inr ⟨_, n, _, rfl, hS, heap_alloc_new W _, Nat.le_refl _, by unfold maxLen; omega, by rw [size_madeCells]; omega, ?_⟩⟩
  apply List.ext_getElem?
  intro j
  rw [Nat.mul_one, List.getElem?_take]
  by_cases hj : j < n
  · rw [if_pos hj]
    simp [its, madeCells, hj, Nat.mod_one]
  · rw [if_neg hj, List.getElem?_eq_none (by simp [its]; omega)]
end Go.Proofs.YtkimmfdicohoiaaGreat.Ar
