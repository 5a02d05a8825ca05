import Derived.Test.YtkfpiafgfjpodabGreatJ39
import Derived.Test.YtkfpiafgfjpodabGreatJ40
/-
  A configuration's box.
-/
namespace Go.Proofs.YtkfpiafgfjpodabGreat.Ar
open Go.RowKit Go.Shelf Mr Me Ma Wc Wm Wr
theorem cf_box2 (w : World) (c : Cf) : (w.alloc (cfO c)).cell? ⟨w.heap.size, 0, none⟩ = some (.int .i64 c.a0) ∧ (w.alloc (cfO c)).cell? ⟨w.heap.size, 1, none⟩ = some (.int .i64 c.a1) ∧ (w.alloc (cfO c)).cell? ⟨w.heap.size, 2, none⟩ = some (.int .i64 c.a2) ∧ (w.alloc (cfO c)).cell? ⟨w.heap.size, 3, none⟩ = some (.int .i64 c.a3) ∧ (w.alloc (cfO c)).cell? ⟨w.heap.size, 4, none⟩ = some (.int .i64 c.a4) ∧ (w.alloc (cfO c)).cell? ⟨w.heap.size, 5, none⟩ = some (.int .i64 c.a5) ∧ (w.alloc (cfO c)).cell? ⟨w.heap.size, 6, none⟩ = some (.int .i64 c.a6) := by
  have hb : (w.alloc (cfO c)).heap[w.heap.size]? = some (cfO c) := heap_alloc_new w _
  generalize w.alloc (cfO c) = W at *
  simp [cfO] at hb
  simp [World.cell?, hb]
theorem Ka.box {w W : World} {c : Cf} {B : Nat} {v1 v2 v3 v4 : Value} {P : Pa} (h : Ka w W c B v1 v2 v3 v4 P) (o : Obj) : Ka w (W.alloc o) c B v1 v2 v3 v4 P := h.below ((Below.refl _ _).alloc (Nat.le_refl _) o)
theorem box_kept {W : World} {k : Nat} {o : Obj} (h : W.heap[k]? = some o) (o' : Obj) : (W.alloc o').heap[k]? = some o := (Below.heap_alloc _ _ _ (Array.getElem?_eq_some_iff.1 h).1).trans h
/-- A call in a box. -/
def clO (x : Cl) : Obj := .cells #[.int .i64 x.th, .int .i64 x.op, .int .i64 x.arg, .int .i64 x.data, .int .i64 x.beg, .int .i64 x.fin, .int .i64 x.pt, .int .i64 x.ak, .int .i64 x.av] 48 (0, 0)
theorem clO_cells {W : World} {k : Nat} {x : Cl} (h : W.heap[k]? = some (clO x)) : W.cell? ⟨k, 0, none⟩ = some (.int .i64 x.th) ∧ W.cell? ⟨k, 1, none⟩ = some (.int .i64 x.op) ∧ W.cell? ⟨k, 2, none⟩ = some (.int .i64 x.arg) ∧ W.cell? ⟨k, 3, none⟩ = some (.int .i64 x.data) ∧ W.cell? ⟨k, 4, none⟩ = some (.int .i64 x.beg) ∧ W.cell? ⟨k, 5, none⟩ = some (.int .i64 x.fin) ∧ W.cell? ⟨k, 6, none⟩ = some (.int .i64 x.pt) ∧ W.cell? ⟨k, 7, none⟩ = some (.int .i64 x.ak) ∧ W.cell? ⟨k, 8, none⟩ = some (.int .i64 x.av) := by
  unfold clO at h
  simp [World.cell?, h]
end Go.Proofs.YtkfpiafgfjpodabGreat.Ar
/-
  Machine.Busy, Machine.Call, Arena.Cached, Arena.Count, asked of a machine with an arena.
-/
namespace Go.Proofs.YtkfpiafgfjpodabGreat.Ar
open Go.RowKit Go.Shelf Mr Me Ma Wc Wm Wr
section
variable {W : World} {U K : Nat → Prop} {f : Fx} {h : Wh} {P : Pa}
theorem RA.nt (hR : RA W U K f h P) : P.pts.length = f.q.nt := by
  have := hR.mch.nt
  rw [show (h.ss P).ths = thsA P.pts h.bc h.bt from rfl, thsA_length] at this
  exact this
def busyI (P : Pa) (x : Int) : Bool := decide (0 ≤ x) && busy P x.toNat
theorem busy_out {U S : Nat → Prop} {q : Ph} {s : Ss} {X : Nat → Obj → Prop} {vl va : Value} (hM : Mch W U S q vl va s X) (x : Int) (hx : x < 0 ∨ (q.nt : Int) ≤ x) : Calls Tryz.prog 21 #[.pointer (some ⟨q.b, 0, none⟩), .int .i64 x] W fun e w' => e = .returned (.bool false) ∧ w' = W := by
  have C := hasT_no hM x hx
  clear hM
  go_enter Tryz.func21, Tryz.ntmps21
  go_wp2_with (go_at_call 19; refine C.mono ?_; clear C; rintro e w' ⟨rfl, hw⟩; obtain rfl := hw.symm)
  go_ret
  exact ⟨rfl, rfl⟩
theorem busy_any (hR : RA W U K f h P) (x : Int) : Calls Tryz.prog 21 #[.pointer (some ⟨f.q.b, 0, none⟩), .int .i64 x] W fun e w' => e = .returned (.bool (busyI P x)) ∧ w' = W := by
  have hnt := hR.nt
  by_cases hx : 0 ≤ x ∧ x < P.pts.length
  · obtain ⟨i, rfl⟩ : ∃ i : Nat, x = i := ⟨x.toNat, by omega⟩
    have hi : i < P.pts.length := by omega
    obtain ⟨t, ht⟩ : ∃ t, P.pts[i]? = some t := ⟨_, List.getElem?_eq_getElem hi⟩
    have hth : (h.ss P).ths[i]? = some (t.th (h.bc i) (h.bt i)) := by
      show (thsA P.pts h.bc h.bt)[i]? = _
      rw [thsA_get, ht]
      rfl
    have e0 : busyI P (i : Int) = t.tk.isSome := by simp [busyI, busy, ht]
    rw [e0]
    rcases htk : t.tk with _ | ⟨kd, k⟩
    · exact busy_no hR.mch i _ hth (by simp [At.th, htk, tkV])
    · cases kd with
      | take => exact busy_yes hR.mch i _ hth 102 (.pointer (some ⟨h.bc i, 0, none⟩)) (by simp [At.th, htk, tkV])
      | give => exact busy_yes hR.mch i _ hth 108 (.pointer (some ⟨h.bt i, 0, none⟩)) (by simp [At.th, htk, tkV])
      | flush => exact busy_yes hR.mch i _ hth 110 (.pointer (some ⟨h.bt i, 0, none⟩)) (by simp [At.th, htk, tkV])
  · have e0 : busyI P x = false := by
      unfold busyI
      by_cases h0 : 0 ≤ x
      · have : P.pts[x.toNat]? = none := List.getElem?_eq_none (by omega)
        simp [busy, this]
      · simp [h0]
    rw [e0]
    exact busy_out hR.mch x (by show x < 0 ∨ (f.q.nt : Int) ≤ x; omega)
/-- What Call answers. -/
def noCl : Cl := ⟨0, 0, 0, 0, 0, 0, 0, 0, 0⟩
def callI (P : Pa) (x : Int) : Option Cl := if 0 ≤ x then callAt P x.toNat else none
theorem noCl_val : noCl.val = .agg #[.int .i64 0, .int .i64 0, .int .i64 0, .int .i64 0, .int .i64 0, .int .i64 0, .int .i64 0, .int .i64 0, .int .i64 0] := rfl
set_option maxRecDepth 100000 in
set_option maxHeartbeats 1000000 in
theorem call_no {U S : Nat → Prop} {q : Ph} {s : Ss} {X : Nat → Obj → Prop} {vl va : Value} (hM : Mch W U S q vl va s X) (x : Int) (hx : (x < 0 ∨ (q.nt : Int) ≤ x) ∨ ∃ (i : Nat) (t : Th), x = i ∧ s.ths[i]? = some t ∧ t.call = -1) : Calls Tryz.prog 11 #[.pointer (some ⟨q.b, 0, none⟩), .int .i64 x] W fun e w' => e = .returned (.tuple #[noCl.val, .bool false]) ∧ Below W.heap.size W w' := by
  rw [noCl_val]
  have hB := fun (o : Obj) => (Below.refl W.heap.size W).alloc (Nat.le_refl _) o
  rcases hx with hx | ⟨i, t, rfl, ht, hc⟩
  · have C := fun o => hasT_no (hM.below (hB o)) x hx
    replace hB := Mr.hid hB
    replace C := Mr.hid C
    clear hM hx
    go_enter Tryz.func11, Tryz.ntmps11
    go_wp2_with (go_at_call 19; refine (C.out _).mono ?_; clear C; rintro e w' ⟨rfl, hw⟩; obtain rfl := hw.symm)
    obtain ⟨W5, hW5⟩ : ∃ W5, W.alloc (.cells #[.int .i64 0, .int .i64 0, .int .i64 0, .int .i64 0, .int .i64 0, .int .i64 0, .int .i64 0, .int .i64 0, .int .i64 0] 48) = W5 := ⟨_, rfl⟩
    have hn : W5.heap[W.heap.size]? = some (.cells #[.int .i64 0, .int .i64 0, .int .i64 0, .int .i64 0, .int .i64 0, .int .i64 0, .int .i64 0, .int .i64 0, .int .i64 0] 48 (0, 0)) := by rw [← hW5]; exact heap_alloc_new W _
    have hB5 := hB.out (.cells #[.int .i64 0, .int .i64 0, .int .i64 0, .int .i64 0, .int .i64 0, .int .i64 0, .int .i64 0, .int .i64 0, .int .i64 0] 48)
    have d0 : W5.cell? ⟨W.heap.size, 0, none⟩ = some (.int .i64 0) := by simp [World.cell?, hn]
    have d1 : W5.cell? ⟨W.heap.size, 1, none⟩ = some (.int .i64 0) := by simp [World.cell?, hn]
    have d2 : W5.cell? ⟨W.heap.size, 2, none⟩ = some (.int .i64 0) := by simp [World.cell?, hn]
    have d3 : W5.cell? ⟨W.heap.size, 3, none⟩ = some (.int .i64 0) := by simp [World.cell?, hn]
    have d4 : W5.cell? ⟨W.heap.size, 4, none⟩ = some (.int .i64 0) := by simp [World.cell?, hn]
    have d5 : W5.cell? ⟨W.heap.size, 5, none⟩ = some (.int .i64 0) := by simp [World.cell?, hn]
    have d6 : W5.cell? ⟨W.heap.size, 6, none⟩ = some (.int .i64 0) := by simp [World.cell?, hn]
    have d7 : W5.cell? ⟨W.heap.size, 7, none⟩ = some (.int .i64 0) := by simp [World.cell?, hn]
    have d8 : W5.cell? ⟨W.heap.size, 8, none⟩ = some (.int .i64 0) := by simp [World.cell?, hn]
    rw [hW5] at hB5 ⊢
    refine bodyPost_ret (v := .tuple #[.agg #[.int .i64 0, .int .i64 0, .int .i64 0, .int .i64 0, .int .i64 0, .int .i64 0, .int .i64 0, .int .i64 0, .int .i64 0], .bool false]) (by simp [results, Tryz.f11, go_sem, d0, d1, d2, d3, d4, d5, d6, d7, d8]) rfl ⟨rfl, hB5⟩
  · have hi : i < q.nt := by rw [← hM.nt]; exact (List.getElem?_eq_some_iff.1 ht).1
    have hi' : (i : Int) < (q.nt : Int) := by omega
    have C := fun o => hasT_yes (hM.below (hB o)) i hi
    have m1 := hM.2.m1
    have a0 : W.cell? ⟨q.gt, i * 5 + 2, none⟩ = some (.int .i64 (-1)) := by rw [← hc]; exact hM.2.atTh rfl i 2 t _ ht rfl
    have l1 : q.b < W.heap.size := hM.2.lt
    have l2 : q.gt < W.heap.size := (hM.2.thr.lt q.gt rfl).2
    replace hB := Mr.hid hB
    replace C := Mr.hid C
    clear hM ht hc
    go_enter Tryz.func11, Tryz.ntmps11
    go_wp2_with (go_at_call 19; refine (C.out _).mono ?_; clear C; rintro e w' ⟨rfl, hw⟩; obtain rfl := hw.symm)
    obtain ⟨W5, hW5⟩ : ∃ W5, W.alloc (.cells #[.int .i64 0, .int .i64 0, .int .i64 0, .int .i64 0, .int .i64 0, .int .i64 0, .int .i64 0, .int .i64 0, .int .i64 0] 48) = W5 := ⟨_, rfl⟩
    have hn : W5.heap[W.heap.size]? = some (.cells #[.int .i64 0, .int .i64 0, .int .i64 0, .int .i64 0, .int .i64 0, .int .i64 0, .int .i64 0, .int .i64 0, .int .i64 0] 48 (0, 0)) := by rw [← hW5]; exact heap_alloc_new W _
    have hB5 := hB.out (.cells #[.int .i64 0, .int .i64 0, .int .i64 0, .int .i64 0, .int .i64 0, .int .i64 0, .int .i64 0, .int .i64 0, .int .i64 0] 48)
    have d0 : W5.cell? ⟨W.heap.size, 0, none⟩ = some (.int .i64 0) := by simp [World.cell?, hn]
    have d1 : W5.cell? ⟨W.heap.size, 1, none⟩ = some (.int .i64 0) := by simp [World.cell?, hn]
    have d2 : W5.cell? ⟨W.heap.size, 2, none⟩ = some (.int .i64 0) := by simp [World.cell?, hn]
    have d3 : W5.cell? ⟨W.heap.size, 3, none⟩ = some (.int .i64 0) := by simp [World.cell?, hn]
    have d4 : W5.cell? ⟨W.heap.size, 4, none⟩ = some (.int .i64 0) := by simp [World.cell?, hn]
    have d5 : W5.cell? ⟨W.heap.size, 5, none⟩ = some (.int .i64 0) := by simp [World.cell?, hn]
    have d6 : W5.cell? ⟨W.heap.size, 6, none⟩ = some (.int .i64 0) := by simp [World.cell?, hn]
    have d7 : W5.cell? ⟨W.heap.size, 7, none⟩ = some (.int .i64 0) := by simp [World.cell?, hn]
    have d8 : W5.cell? ⟨W.heap.size, 8, none⟩ = some (.int .i64 0) := by simp [World.cell?, hn]
    rw [hW5] at hB5 ⊢
    refine bodyPost_ret (v := .tuple #[.agg #[.int .i64 0, .int .i64 0, .int .i64 0, .int .i64 0, .int .i64 0, .int .i64 0, .int .i64 0, .int .i64 0, .int .i64 0], .bool false]) (by simp [results, Tryz.f11, go_sem, d0, d1, d2, d3, d4, d5, d6, d7, d8]) rfl ⟨rfl, hB5⟩
theorem box9 {W : World} {b t : Nat} {z0 z1 z2 z3 z4 z5 z6 z7 z8 : Value} (h : W.heap[b]? = some (.cells #[z0, z1, z2, z3, z4, z5, z6, z7, z8] t (0, 0))) (v0 v1 v2 v3 v4 v5 v6 v7 v8 : Value) : (((((((((W.setCell ⟨b, 0, none⟩ v0).setCell ⟨b, 1, none⟩ v1).setCell ⟨b, 2, none⟩ v2).setCell ⟨b, 3, none⟩ v3).setCell ⟨b, 4, none⟩ v4).setCell ⟨b, 5, none⟩ v5).setCell ⟨b, 6, none⟩ v6).setCell ⟨b, 7, none⟩ v7).setCell ⟨b, 8, none⟩ v8).heap[b]? = some (.cells #[v0, v1, v2, v3, v4, v5, v6, v7, v8] t (0, 0)) := by
  have h0 : (W.setCell ⟨b, 0, none⟩ v0).heap[b]? = some (.cells #[v0, z1, z2, z3, z4, z5, z6, z7, z8] t (0, 0)) := setBlk h 0 v0
  have h1 : ((W.setCell ⟨b, 0, none⟩ v0).setCell ⟨b, 1, none⟩ v1).heap[b]? = some (.cells #[v0, v1, z2, z3, z4, z5, z6, z7, z8] t (0, 0)) := setBlk h0 1 v1
  have h2 : (((W.setCell ⟨b, 0, none⟩ v0).setCell ⟨b, 1, none⟩ v1).setCell ⟨b, 2, none⟩ v2).heap[b]? = some (.cells #[v0, v1, v2, z3, z4, z5, z6, z7, z8] t (0, 0)) := setBlk h1 2 v2
  have h3 : ((((W.setCell ⟨b, 0, none⟩ v0).setCell ⟨b, 1, none⟩ v1).setCell ⟨b, 2, none⟩ v2).setCell ⟨b, 3, none⟩ v3).heap[b]? = some (.cells #[v0, v1, v2, v3, z4, z5, z6, z7, z8] t (0, 0)) := setBlk h2 3 v3
  have h4 : (((((W.setCell ⟨b, 0, none⟩ v0).setCell ⟨b, 1, none⟩ v1).setCell ⟨b, 2, none⟩ v2).setCell ⟨b, 3, none⟩ v3).setCell ⟨b, 4, none⟩ v4).heap[b]? = some (.cells #[v0, v1, v2, v3, v4, z5, z6, z7, z8] t (0, 0)) := setBlk h3 4 v4
  have h5 : ((((((W.setCell ⟨b, 0, none⟩ v0).setCell ⟨b, 1, none⟩ v1).setCell ⟨b, 2, none⟩ v2).setCell ⟨b, 3, none⟩ v3).setCell ⟨b, 4, none⟩ v4).setCell ⟨b, 5, none⟩ v5).heap[b]? = some (.cells #[v0, v1, v2, v3, v4, v5, z6, z7, z8] t (0, 0)) := setBlk h4 5 v5
  have h6 : (((((((W.setCell ⟨b, 0, none⟩ v0).setCell ⟨b, 1, none⟩ v1).setCell ⟨b, 2, none⟩ v2).setCell ⟨b, 3, none⟩ v3).setCell ⟨b, 4, none⟩ v4).setCell ⟨b, 5, none⟩ v5).setCell ⟨b, 6, none⟩ v6).heap[b]? = some (.cells #[v0, v1, v2, v3, v4, v5, v6, z7, z8] t (0, 0)) := setBlk h5 6 v6
  have h7 : ((((((((W.setCell ⟨b, 0, none⟩ v0).setCell ⟨b, 1, none⟩ v1).setCell ⟨b, 2, none⟩ v2).setCell ⟨b, 3, none⟩ v3).setCell ⟨b, 4, none⟩ v4).setCell ⟨b, 5, none⟩ v5).setCell ⟨b, 6, none⟩ v6).setCell ⟨b, 7, none⟩ v7).heap[b]? = some (.cells #[v0, v1, v2, v3, v4, v5, v6, v7, z8] t (0, 0)) := setBlk h6 7 v7
  have h8 : (((((((((W.setCell ⟨b, 0, none⟩ v0).setCell ⟨b, 1, none⟩ v1).setCell ⟨b, 2, none⟩ v2).setCell ⟨b, 3, none⟩ v3).setCell ⟨b, 4, none⟩ v4).setCell ⟨b, 5, none⟩ v5).setCell ⟨b, 6, none⟩ v6).setCell ⟨b, 7, none⟩ v7).setCell ⟨b, 8, none⟩ v8).heap[b]? = some (.cells #[v0, v1, v2, v3, v4, v5, v6, v7, v8] t (0, 0)) := setBlk h7 8 v8
  exact h8
theorem below9 {W0 W : World} {n b : Nat} (h : Below n W0 W) (hb : n ≤ b) (v0 v1 v2 v3 v4 v5 v6 v7 v8 : Value) : Below n W0 (((((((((W.setCell ⟨b, 0, none⟩ v0).setCell ⟨b, 1, none⟩ v1).setCell ⟨b, 2, none⟩ v2).setCell ⟨b, 3, none⟩ v3).setCell ⟨b, 4, none⟩ v4).setCell ⟨b, 5, none⟩ v5).setCell ⟨b, 6, none⟩ v6).setCell ⟨b, 7, none⟩ v7).setCell ⟨b, 8, none⟩ v8) := by
  have h0 := h.setCell (p := ⟨b, 0, none⟩) hb v0
  have h1 := h0.setCell (p := ⟨b, 1, none⟩) hb v1
  have h2 := h1.setCell (p := ⟨b, 2, none⟩) hb v2
  have h3 := h2.setCell (p := ⟨b, 3, none⟩) hb v3
  have h4 := h3.setCell (p := ⟨b, 4, none⟩) hb v4
  have h5 := h4.setCell (p := ⟨b, 5, none⟩) hb v5
  have h6 := h5.setCell (p := ⟨b, 6, none⟩) hb v6
  have h7 := h6.setCell (p := ⟨b, 7, none⟩) hb v7
  have h8 := h7.setCell (p := ⟨b, 8, none⟩) hb v8
  exact h8
set_option maxRecDepth 100000 in
set_option maxHeartbeats 1000000 in
theorem call_yes {U S : Nat → Prop} {q : Ph} {s : Ss} {X : Nat → Obj → Prop} {vl va : Value} (hM : Mch W U S q vl va s X) (i : Nat) (t : Th) (ht : s.ths[i]? = some t) (c : Nat) (hc : t.call = c) (x : Cl) (hx : s.cls[c]? = some x) : Calls Tryz.prog 11 #[.pointer (some ⟨q.b, 0, none⟩), .int .i64 (i : Int)] W fun e w' => e = .returned (.tuple #[x.val, .bool true]) ∧ Below W.heap.size W w' := by
  unfold Cl.val
  have hB := fun (o : Obj) => (Below.refl W.heap.size W).alloc (Nat.le_refl _) o
  have hi : i < q.nt := by rw [← hM.nt]; exact (List.getElem?_eq_some_iff.1 ht).1
  have hi' : (i : Int) < (q.nt : Int) := by omega
  obtain ⟨W1, hW1⟩ : ∃ W1, W.alloc (.cells #[.int .i64 0, .int .i64 0, .int .i64 0, .int .i64 0, .int .i64 0, .int .i64 0, .int .i64 0, .int .i64 0, .int .i64 0] 48) = W1 := ⟨_, rfl⟩
  have hB1 : Below W.heap.size W W1 := by rw [← hW1]; exact hB _
  have hM1 := hM.below hB1
  have C := hasT_yes hM1 i hi
  have m1 := hM1.2.m1
  have m3 := hM1.2.m3
  have a0 : W1.cell? ⟨q.gt, i * 5 + 2, none⟩ = some (.int .i64 (c : Int)) := by rw [← hc]; exact hM1.2.atTh rfl i 2 t _ ht rfl
  have hcl : c < s.cls.length := (List.getElem?_eq_some_iff.1 hx).1
  obtain ⟨gc, cc, hgc, _, gl, gn, gx⟩ := hM1.2.cal.there (by omega)
  have b1 := hM1.2.b1
  have hcal := hM1.2.cal
  rw [hgc] at b1 hcal
  obtain ⟨f0, f1, f2, f3, f4, f5, f6, f7, f8⟩ := cl_cells hcal hx
  unfold maxLen at gx
  have hcl' : (c : Int) < (s.cls.length : Int) := by omega
  have hbox : W1.heap[W.heap.size]? = some (.cells #[.int .i64 0, .int .i64 0, .int .i64 0, .int .i64 0, .int .i64 0, .int .i64 0, .int .i64 0, .int .i64 0, .int .i64 0] 48 (0, 0)) := by rw [← hW1]; exact heap_alloc_new W _
  have d0 : W1.cell? ⟨W.heap.size, 0, none⟩ = some (.int .i64 0) := by simp [World.cell?, hbox]
  have d1 : W1.cell? ⟨W.heap.size, 1, none⟩ = some (.int .i64 0) := by simp [World.cell?, hbox]
  have d2 : W1.cell? ⟨W.heap.size, 2, none⟩ = some (.int .i64 0) := by simp [World.cell?, hbox]
  have d3 : W1.cell? ⟨W.heap.size, 3, none⟩ = some (.int .i64 0) := by simp [World.cell?, hbox]
  have d4 : W1.cell? ⟨W.heap.size, 4, none⟩ = some (.int .i64 0) := by simp [World.cell?, hbox]
  have d5 : W1.cell? ⟨W.heap.size, 5, none⟩ = some (.int .i64 0) := by simp [World.cell?, hbox]
  have d6 : W1.cell? ⟨W.heap.size, 6, none⟩ = some (.int .i64 0) := by simp [World.cell?, hbox]
  have d7 : W1.cell? ⟨W.heap.size, 7, none⟩ = some (.int .i64 0) := by simp [World.cell?, hbox]
  have d8 : W1.cell? ⟨W.heap.size, 8, none⟩ = some (.int .i64 0) := by simp [World.cell?, hbox]
  have hz : ∀ o, W1.frozen? ⟨W.heap.size, o, none⟩ = false := fun o => by simp [World.frozen?, hbox]
  have hs1 : W1.heap.size = W.heap.size + 1 := by rw [← hW1]; simp
  have l1 : q.b < W.heap.size := hM.2.lt
  have l2 : q.gt < W.heap.size := (hM.2.thr.lt q.gt rfl).2
  have l3 : q.bb < W.heap.size := hM.2.ltb
  have l4 : gc < W.heap.size := by
    have := hM.2.cal.lt gc (by rw [hgc]; rfl)
    exact this.2
  have n1 : q.b ≠ W.heap.size := by omega
  have n1' : W.heap.size ≠ q.b := by omega
  have n2 : q.gt ≠ W.heap.size := by omega
  have n2' : W.heap.size ≠ q.gt := by omega
  have n3 : q.bb ≠ W.heap.size := by omega
  have n3' : W.heap.size ≠ q.bb := by omega
  have n4 : gc ≠ W.heap.size := by omega
  have n4' : W.heap.size ≠ gc := by omega
  have n0 : ((c : Int) == -1) = false := by simp
  generalize s.cls.length = NC at *
  replace hB1 := Mr.hid hB1
  replace hbox := Mr.hid hbox
  replace C := Mr.hid C
  clear hB hM hM1 ht hc hx hcal hgc
  go_enter Tryz.func11, Tryz.ntmps11
  go_wp2_with (go_at_call 19; refine C.out.mono ?_; clear C; rintro e w' ⟨rfl, hw⟩; obtain rfl := hw.symm)
  go_region_held3 (fun w' => w'.cell? ⟨q.b, 1, none⟩ = some (.slice (some ⟨q.gt, 0, none⟩) q.nt q.ct) ∧ w'.cell? ⟨q.b, 3, none⟩ = some (.pointer (some ⟨q.bb, 0, none⟩)) ∧ w'.cell? ⟨q.bb, 1, none⟩ = some (.slice (some ⟨gc, 0, none⟩) NC cc) ∧ w'.cell? ⟨q.gt, i * 5 + 2, none⟩ = some (.int .i64 (c : Int)) ∧ w'.cell? ⟨gc, c * 9, none⟩ = some (.int .i64 x.th) ∧ w'.cell? ⟨gc, c * 9 + 1, none⟩ = some (.int .i64 x.op) ∧ w'.cell? ⟨gc, c * 9 + 2, none⟩ = some (.int .i64 x.arg) ∧ w'.cell? ⟨gc, c * 9 + 3, none⟩ = some (.int .i64 x.data) ∧ w'.cell? ⟨gc, c * 9 + 4, none⟩ = some (.int .i64 x.beg) ∧ w'.cell? ⟨gc, c * 9 + 5, none⟩ = some (.int .i64 x.fin) ∧ w'.cell? ⟨gc, c * 9 + 6, none⟩ = some (.int .i64 x.pt) ∧ w'.cell? ⟨gc, c * 9 + 7, none⟩ = some (.int .i64 x.ak) ∧ w'.cell? ⟨gc, c * 9 + 8, none⟩ = some (.int .i64 x.av)) (go_keep)
    (fail)
  go_wp2
  obtain ⟨W5, hW5⟩ : ∃ W5, ((((((((W1.setCell ⟨W.heap.size, 0, none⟩ (.int .i64 x.th)).setCell ⟨W.heap.size, 1, none⟩ (.int .i64 x.op)).setCell ⟨W.heap.size, 2, none⟩ (.int .i64 x.arg)).setCell ⟨W.heap.size, 3, none⟩ (.int .i64 x.data)).setCell ⟨W.heap.size, 4, none⟩ (.int .i64 x.beg)).setCell ⟨W.heap.size, 5, none⟩ (.int .i64 x.fin)).setCell ⟨W.heap.size, 6, none⟩ (.int .i64 x.pt)).setCell ⟨W.heap.size, 7, none⟩ (.int .i64 x.ak)).setCell ⟨W.heap.size, 8, none⟩ (.int .i64 x.av) = W5 := ⟨_, rfl⟩
  have hb5 : W5.heap[W.heap.size]? = some (.cells #[.int .i64 x.th, .int .i64 x.op, .int .i64 x.arg, .int .i64 x.data, .int .i64 x.beg, .int .i64 x.fin, .int .i64 x.pt, .int .i64 x.ak, .int .i64 x.av] 48 (0, 0)) := by
    rw [← hW5]
    exact box9 hbox.out _ _ _ _ _ _ _ _ _
  have hB5 : Below W.heap.size W W5.drew := by
    rw [← hW5]
    exact (below9 hB1.out (Nat.le_refl _) _ _ _ _ _ _ _ _ _).drew
  rw [hW5]
  have g0 : W5.drew.cell? ⟨W.heap.size, 0, none⟩ = some (.int .i64 x.th) := by rw [World.cell?_drew]; simp [World.cell?, hb5]
  have g1 : W5.drew.cell? ⟨W.heap.size, 1, none⟩ = some (.int .i64 x.op) := by rw [World.cell?_drew]; simp [World.cell?, hb5]
  have g2 : W5.drew.cell? ⟨W.heap.size, 2, none⟩ = some (.int .i64 x.arg) := by rw [World.cell?_drew]; simp [World.cell?, hb5]
  have g3 : W5.drew.cell? ⟨W.heap.size, 3, none⟩ = some (.int .i64 x.data) := by rw [World.cell?_drew]; simp [World.cell?, hb5]
  have g4 : W5.drew.cell? ⟨W.heap.size, 4, none⟩ = some (.int .i64 x.beg) := by rw [World.cell?_drew]; simp [World.cell?, hb5]
  have g5 : W5.drew.cell? ⟨W.heap.size, 5, none⟩ = some (.int .i64 x.fin) := by rw [World.cell?_drew]; simp [World.cell?, hb5]
  have g6 : W5.drew.cell? ⟨W.heap.size, 6, none⟩ = some (.int .i64 x.pt) := by rw [World.cell?_drew]; simp [World.cell?, hb5]
  have g7 : W5.drew.cell? ⟨W.heap.size, 7, none⟩ = some (.int .i64 x.ak) := by rw [World.cell?_drew]; simp [World.cell?, hb5]
  have g8 : W5.drew.cell? ⟨W.heap.size, 8, none⟩ = some (.int .i64 x.av) := by rw [World.cell?_drew]; simp [World.cell?, hb5]
  refine bodyPost_ret (v := .tuple #[.agg #[.int .i64 x.th, .int .i64 x.op, .int .i64 x.arg, .int .i64 x.data, .int .i64 x.beg, .int .i64 x.fin, .int .i64 x.pt, .int .i64 x.ak, .int .i64 x.av], .bool true]) (by simp [results, Tryz.f11, go_sem, g0, g1, g2, g3, g4, g5, g6, g7, g8]) rfl ⟨rfl, hB5⟩
theorem call_any (hR : RA W U K f h P) (hcl : ∀ (i : Nat) (t : At), P.pts[i]? = some t → t.call ≠ -1 → ∃ c : Nat, t.call = c ∧ c < P.cls.length) (x : Int) : Calls Tryz.prog 11 #[.pointer (some ⟨f.q.b, 0, none⟩), .int .i64 x] W fun e w' => e = .returned (.tuple #[((callI P x).getD noCl).val, .bool (callI P x).isSome]) ∧ Below W.heap.size W w' := by
  have hnt := hR.nt
  by_cases hx : 0 ≤ x ∧ x < P.pts.length
  · obtain ⟨i, rfl⟩ : ∃ i : Nat, x = i := ⟨x.toNat, by omega⟩
    have hi : i < P.pts.length := by omega
    obtain ⟨t, ht⟩ : ∃ t, P.pts[i]? = some t := ⟨_, List.getElem?_eq_getElem hi⟩
    have hth : (h.ss P).ths[i]? = some (t.th (h.bc i) (h.bt i)) := by
      show (thsA P.pts h.bc h.bt)[i]? = _
      rw [thsA_get, ht]
      rfl
    by_cases hc : t.call = -1
    · have e0 : callI P (i : Int) = none := by simp [callI, callAt, ht, hc]
      rw [e0]
      exact call_no hR.mch i (.inr ⟨i, _, rfl, hth, hc⟩)
    · obtain ⟨c, hc1, hc2⟩ := hcl i t ht hc
      have e0 : callI P (i : Int) = some P.cls[c] := by
        simp only [callI, callAt]
        rw [if_pos (by omega)]
        simp only [Int.toNat_natCast, ht]
        rw [if_neg hc, hc1, Int.toNat_natCast, List.getElem?_eq_getElem hc2]
      rw [e0]
      exact call_yes hR.mch i _ hth c hc1 _ (List.getElem?_eq_getElem hc2)
  · have e0 : callI P x = none := by
      unfold callI
      by_cases h0 : 0 ≤ x
      · have : P.pts[x.toNat]? = none := List.getElem?_eq_none (by omega)
        simp [callAt, this]
      · simp [h0]
    rw [e0]
    exact call_no hR.mch x (.inl (by show x < 0 ∨ (f.q.nt : Int) ≤ x; omega))
end
end Go.Proofs.YtkfpiafgfjpodabGreat.Ar
/-
  Arena.Cached, Arena.Count by their contracts.
-/
namespace Go.Proofs.YtkfpiafgfjpodabGreat.Ar
open Go.RowKit Go.Shelf Mr Me Ma Wc Wm Wr
theorem ints_length (l : List Int) : (ints l).length = l.length := by simp [ints]
theorem ints_one (l : List Int) : ∀ u ∈ ints l, u.oneCell' = true := by
  intro u hu
  simp only [ints, List.mem_map] at hu
  obtain ⟨c, _, rfl⟩ := hu
  rfl
section
variable {W : World} {T : Nat → Prop} {ba gs cs : Nat} {c : Cf} {vca : Value} {vs : List Value} {A : Ao}
def cntS (st : Int) (l : List (Int × Int)) : Nat := l.countP (fun y => y.1 == st)
theorem cntS_snoc (st : Int) (l : List (Int × Int)) (y : Int × Int) : cntS st (l ++ [y]) = cntS st l + (if y.1 == st then 1 else 0) := by simp [cntS, List.countP_append, List.countP_cons]
theorem cntS_le (st : Int) (l : List (Int × Int)) : cntS st l ≤ l.length := List.countP_le_length
set_option maxRecDepth 100000 in
set_option maxHeartbeats 1000000 in
theorem count_any (h : Ar W T ba gs cs c vca vs A) (hl : ∀ k, T k → k < W.heap.size) (hns : A.sl.length ≤ 1024) (st : Int) :
    Calls Tryz.prog 10 #[.pointer (some ⟨ba, 0, none⟩), .int .i64 st] W fun e w' => e = .returned (.int .i64 (cntS st A.sl : Int)) ∧ Below W.heap.size W w' := by
  have c7 := h.c7
  have hcl := h.slots
  have hAt := fun (wr : World) (hB : Below W.heap.size W wr) (x : Nat) (y : Int × Int) (hy : A.sl[x]? = some y) => (⟨((h.kept (w := wr) (fun k hk => hB.block k (hl k hk)) (fun _ h => h)).slotAt x 0 y _ hy rfl).1, ((h.kept (w := wr) (fun k hk => hB.block k (hl k hk)) (fun _ h => h)).slotAt x 1 y _ hy rfl).1⟩ : wr.cell? ⟨gs, x * 2 + 0, none⟩ = some (.int .i64 y.1) ∧ wr.cell? ⟨gs, x * 2 + 1, none⟩ = some (.int .i64 y.2))
  have hg := (hcl.lt gs rfl).2
  have hcs : A.sl.length ≤ cs ∧ cs ≤ 9223372036854775807 := by
    by_cases hz : 0 < A.sl.length
    · obtain ⟨g', c', e', _, _, hx1, hx2⟩ := hcl.there hz
      injection e' with e1 e2 e3
      subst e3
      unfold maxLen at hx2
      omega
    · rcases hcl.2 with ⟨e', _⟩ | ⟨g', c', cur, e', _, _, hx1, hx2, _⟩
      · cases e'
      · injection e' with e1 e2 e3
        subst e3
        unfold maxLen at hx2
        omega
  replace hAt := Mr.hid hAt
  clear h hcl hl
  go_enter Tryz.func10, Tryz.ntmps10
  go_wp2
  go_loopg [5, 15] A.sl.length (fun k s5 s15 wr => ∃ j : Nat, s5 = .int .i64 (cntS st (A.sl.take j) : Int) ∧ s15 = .int .i64 (j : Int) ∧ j + k = A.sl.length ∧ Below W.heap.size W wr)
  case atStart => exact ⟨0, rfl, rfl, by omega, Below.refl _ _⟩
  case round =>
    obtain ⟨j, rfl, rfl, hj, hB⟩ := hrel
    by_cases hjl : j < A.sl.length
    · obtain ⟨y, hy⟩ : ∃ y, A.sl[j]? = some y := ⟨_, List.getElem?_eq_getElem hjl⟩
      obtain ⟨k0, k1⟩ := hAt.out wr hB j y hy
      rw [Nat.add_zero] at k0
      have e0 : A.sl.take (j + 1) = A.sl.take j ++ [y] := by rw [List.take_add_one, hy]; rfl
      have e1 := cntS_snoc st (A.sl.take j) y
      rw [← e0] at e1
      have e2 := cntS_le st (A.sl.take j)
      have e3 : (A.sl.take j).length = j := by rw [List.length_take]; omega
      rw [e3] at e2
      have hgl : gs < wr.heap.size := Nat.lt_of_lt_of_le hg hB.size
      have hBA := fun o => hB.alloc hB.size o
      generalize cntS st (A.sl.take j) = c0 at *
      replace hBA := Mr.hid hBA
      replace hB := Mr.hid hB
      replace e1 := Mr.hid e1
      by_cases hs : y.1 = st
      · have b1 : (y.1 == st) = true := by simpa using hs
        go_wp2
        go_roundg (gk - 1)
        case measure => omega
        case rel =>
          refine ⟨j + 1, ?_, by simp, by omega, hBA.out _⟩
          have := e1.out
          rw [b1, if_pos rfl] at this
          rw [this]
          simp
      · have b1 : (y.1 == st) = false := by simpa using hs
        go_wp2
        go_roundg (gk - 1)
        case measure => omega
        case rel =>
          refine ⟨j + 1, ?_, by simp, by omega, hBA.out _⟩
          have := e1.out
          rw [b1, if_neg (by decide)] at this
          rw [this]
          simp
    · obtain rfl : j = A.sl.length := by omega
      rw [List.take_length]
      replace hB := Mr.hid hB
      go_wp2
      go_ret
      exact ⟨rfl, hB.out⟩
end
end Go.Proofs.YtkfpiafgfjpodabGreat.Ar
