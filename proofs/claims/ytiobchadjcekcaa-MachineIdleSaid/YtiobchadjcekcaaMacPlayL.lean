/-
  play of reclaimlaw03 by its contract.
-/
import Derived.Test.YtiobchadjcekcaaMacFit
namespace Go.Proofs.Ytiobchadjcekcaa.Ma
open Go.RowKit Go.Shelf Mr Me
/-- play's three boxes. -/
structure Bb (w W : World) (x y z : Value) : Prop where
  bel : Below w.heap.size w W
  s0 : W.heap[w.heap.size]? = some (.cells #[x, y, z] 45 (0, 0))
  s1 : W.heap[w.heap.size + 1]? = some (.cells #[.int .i64 0, .slice none 0 0, .slice none 0 0] 45 (0, 0))
  s2 : W.heap[w.heap.size + 1 + 1]? = some (.cells #[.slice none 0 0, .slice none 0 0, .slice none 0 0, .slice none 0 0] 41 (0, 0))
theorem Bb.below {w W W' : World} {x y z : Value} (h : Bb w W x y z) (hB : Below W.heap.size W W') : Bb w W' x y z :=
  have g : ∀ k o, W.heap[k]? = some o → W'.heap[k]? = some o := fun k _ hk => (hB.block k (Array.getElem?_eq_some_iff.1 hk).1).trans hk
  ⟨h.bel.trans (hB.mono h.bel.size), g _ _ h.s0, g _ _ h.s1, g _ _ h.s2⟩
theorem Bb.new (w : World) (x y z : Value) : Bb w (((w.alloc (.cells #[x, y, z] 45)).alloc (.cells #[.int .i64 0, .slice none 0 0, .slice none 0 0] 45)).alloc (.cells #[.slice none 0 0, .slice none 0 0, .slice none 0 0, .slice none 0 0] 41)) x y z := by
  refine ⟨(((Below.refl _ _).alloc (Nat.le_refl _) _).alloc (by simp) _).alloc (by simp; omega) _, ?_, ?_, ?_⟩
  · rw [((Below.refl _ _).alloc (Nat.le_refl _) _).block _ (by simp; omega), ((Below.refl _ _).alloc (Nat.le_refl _) _).block _ (by simp), heap_alloc_new]
  · rw [((Below.refl _ _).alloc (Nat.le_refl _) _).block _ (by simp), heap_alloc2_new]
  · have := heap_alloc_new ((w.alloc (.cells #[x, y, z] 45)).alloc (.cells #[.int .i64 0, .slice none 0 0, .slice none 0 0] 45)) (.cells #[.slice none 0 0, .slice none 0 0, .slice none 0 0, .slice none 0 0] 41)
    simp only [World.size_alloc] at this
    exact this
theorem Bb.set {w W : World} {x y z : Value} (h : Bb w W x y z) (x' y' z' : Value) : Bb w (((W.setCell ⟨w.heap.size, 0, none⟩ x').setCell ⟨w.heap.size, 1, none⟩ y').setCell ⟨w.heap.size, 2, none⟩ z') x' y' z' := by
  refine ⟨((h.bel.setCell (p := ⟨w.heap.size, 0, none⟩) (Nat.le_refl _) _).setCell (p := ⟨w.heap.size, 1, none⟩) (Nat.le_refl _) _).setCell (p := ⟨w.heap.size, 2, none⟩) (Nat.le_refl _) _, ?_, ?_, ?_⟩
  · rw [setBlk (setBlk (setBlk h.s0 0 _) 1 _) 2 _]; rfl
  · rw [Below.heap_setCell _ _ _ _ (by simp), Below.heap_setCell _ _ _ _ (by simp), Below.heap_setCell _ _ _ _ (by simp)]; exact h.s1
  · rw [Below.heap_setCell _ _ _ _ (by simp; omega), Below.heap_setCell _ _ _ _ (by simp; omega), Below.heap_setCell _ _ _ _ (by simp; omega)]; exact h.s2
theorem Bb.c {w W : World} {x y z : Value} (h : Bb w W x y z) : (W.cell? ⟨w.heap.size, 0, none⟩ = some x ∧ W.cell? ⟨w.heap.size, 1, none⟩ = some y ∧ W.cell? ⟨w.heap.size, 2, none⟩ = some z) ∧ (∀ j, W.frozen? ⟨w.heap.size, j, none⟩ = false) := by
  refine ⟨⟨?_, ?_, ?_⟩, fun j => ?_⟩ <;> simp [World.cell?, World.frozen?, h.s0]
theorem Bb.c1 {w W : World} {x y z : Value} (h : Bb w W x y z) : (W.cell? ⟨w.heap.size + 1, 0, none⟩ = some (.int .i64 0) ∧ W.cell? ⟨w.heap.size + 1, 1, none⟩ = some (.slice none 0 0) ∧ W.cell? ⟨w.heap.size + 1, 2, none⟩ = some (.slice none 0 0)) ∧ (∀ j, W.frozen? ⟨w.heap.size + 1, j, none⟩ = false) := by
  refine ⟨⟨?_, ?_, ?_⟩, fun j => ?_⟩ <;> simp [World.cell?, World.frozen?, h.s1]
theorem Bb.c2 {w W : World} {x y z : Value} (h : Bb w W x y z) : (W.cell? ⟨w.heap.size + 1 + 1, 0, none⟩ = some (.slice none 0 0) ∧ W.cell? ⟨w.heap.size + 1 + 1, 1, none⟩ = some (.slice none 0 0) ∧ W.cell? ⟨w.heap.size + 1 + 1, 2, none⟩ = some (.slice none 0 0) ∧ W.cell? ⟨w.heap.size + 1 + 1, 3, none⟩ = some (.slice none 0 0)) ∧ (∀ j, W.frozen? ⟨w.heap.size + 1 + 1, j, none⟩ = false) := by
  refine ⟨⟨?_, ?_, ?_, ?_⟩, fun j => ?_⟩ <;> simp [World.cell?, World.frozen?, h.s2]
/-- What play answers. -/
def Playd (w w' : World) (e : Ending) (th : Int) (a : Option Addr) (n cap : Nat) (am : Option Addr) (nm cm : Nat) (P : Pm) : Prop :=
  ∃ v1 v2 v4, e = .returned (.tuple #[.agg #[.int .i64 ((fitT th : Nat) : Int), .slice a (min n 8192) cap, .slice am (min nm 65536) cm], .agg #[v1, v2, .slice none 0 0, v4], .bool true]) ∧ Has w' (fun k => w.heap.size ≤ k) 52 9 v1 P.cls.length (clc P.cls) ∧ Has w' (fun k => w.heap.size ≤ k) 57 7 v2 P.lg.length (lgc P.lg) ∧ Has w' (fun k => w.heap.size ≤ k) 27 1 v4 P.ws.length (wrd P.ws) ∧ Below w.heap.size w w'
set_option maxRecDepth 100000 in
set_option maxHeartbeats 2000000 in
theorem play_any (w : World) (th : Int) (a : Option Addr) (n cap : Nat) (am : Option Addr) (nm cm : Nat) (hn : n ≤ cap) (hnm : nm ≤ cm) (ws : List Int) (ms : List Mv) (hs : Src w a n cap ws) (hm : MvAt w am nm ms) :
    Calls Try.prog 14 #[.agg #[.int .i64 th, .slice a n cap, .slice am nm cm]] w fun e w' => Playd w w' e th a n cap am nm cm ((Pm.new (fitT th) (ws.take 8192)).play (ms.take 65536)) := by
  have F := fun (W : World) => fit_any W th a n cap am nm cm hn hnm (fun h => by rcases hs.2 with ⟨_, h0, _⟩ | ⟨ad, h, _⟩; (omega); exact ⟨ad, h⟩) (fun h => by rcases hm.2 with h0 | ⟨b, off, h', _⟩; (have := hm.1; rw [h0] at this; simp at this; omega); exact ⟨_, h'⟩)
  have P := fun (W : World) (hB : Below w.heap.size w W) => play_ok W (fitT th) (fitT_pos th).1 (fitT_pos th).2 a (min n 8192) cap (ws.take 8192) (src_take (hs.below hB) 8192) (by omega) am (min nm 65536) cm (ms.take 65536) ((hm.below hB).take 65536) (by omega)
  generalize (Pm.new (fitT th) (ws.take 8192)).play (ms.take 65536) = Q at *
  generalize hft : fitT th = ft at F P
  replace hft := Mr.hid hft
  generalize hm1 : min n 8192 = m1 at F P
  generalize hm2 : min nm 65536 = m2 at F P
  have h0 := Bb.new w (.int .i64 th) (.slice a n cap) (.slice am nm cm)
  have sz0 : (((w.alloc (.cells #[.int .i64 th, .slice a n cap, .slice am nm cm] 45)).alloc (.cells #[.int .i64 0, .slice none 0 0, .slice none 0 0] 45)).alloc (.cells #[.slice none 0 0, .slice none 0 0, .slice none 0 0, .slice none 0 0] 41)).heap.size = w.heap.size + 1 + 1 + 1 := by simp
  replace h0 := Mr.hid h0
  replace hs := Mr.hid hs
  replace hm := Mr.hid hm
  replace hm1 := Mr.hid hm1
  replace hm2 := Mr.hid hm2
  replace sz0 := Mr.hid sz0
  go_enter Try.func14, Try.ntmps14
  go_wp2_with (first
    | (go_at_call 27; refine (F _).mono ?_; clear F; rintro e w1 ⟨rfl, hB1⟩; have h1 := h0.out.below hB1; have z1 := hB1.size; rw [sz0.out] at z1; clear hB1 h0 sz0; obtain ⟨⟨c0, c1, c2⟩, c3⟩ := h1.c; replace h1 := Mr.hid h1)
    | (go_at_call 15; have h2 := h1.out.set (.int .i64 ((ft : Nat) : Int)) (.slice a m1 cap) (.slice am m2 cm); refine (P _ h2.bel).mono ?_; clear P; rintro e w3 ⟨v1, v2, v4, rfl, hv1, hv2, hv4, hB3⟩; have h3 := h2.below hB3; have z3 := hB3.size; simp only [World.size_setCell] at z3 hv1 hv2 hv4; clear hB3 h1 h2 c0 c1 c2 c3; obtain ⟨p1, q1, rfl, _⟩ := hv1.form; obtain ⟨p2, q2, rfl, _⟩ := hv2.form; obtain ⟨p4, q4, rfl, _⟩ := hv4.form; replace hv1 := Mr.hid hv1; replace hv2 := Mr.hid hv2; replace hv4 := Mr.hid hv4; replace h3 := Mr.hid h3; unfold runV))
  have hBa := (Below.refl w3.heap.size w3).alloc (Nat.le_refl _) (.cells #[.slice p1 Q.cls.length q1, .slice p2 Q.lg.length q2, .slice none 0 0, .slice p4 Q.ws.length q4] 41)
  have h4 := h3.out.below hBa
  have hv1 := hv1.out.below hBa
  have hv2 := hv2.out.below hBa
  have hv4 := hv4.out.below hBa
  have rb := heap_alloc_new w3 (.cells #[.slice p1 Q.cls.length q1, .slice p2 Q.lg.length q2, .slice none 0 0, .slice p4 Q.ws.length q4] 41)
  have z4 : w3.heap.size < (w3.alloc (.cells #[.slice p1 Q.cls.length q1, .slice p2 Q.lg.length q2, .slice none 0 0, .slice p4 Q.ws.length q4] 41)).heap.size := by simp
  generalize w3.alloc (.cells #[.slice p1 Q.cls.length q1, .slice p2 Q.lg.length q2, .slice none 0 0, .slice p4 Q.ws.length q4] 41) = W4 at *
  generalize w3.heap.size = B3 at *
  generalize hn1 : Q.cls.length = n1 at *
  generalize hn2 : Q.lg.length = n2 at *
  generalize hn4 : Q.ws.length = n4 at *
  have rc : ∀ W : World, W.heap[B3]? = some (.cells #[.slice p1 n1 q1, .slice p2 n2 q2, .slice none 0 0, .slice p4 n4 q4] 41 (0, 0)) → W.cell? ⟨B3, 0, none⟩ = some (.slice p1 n1 q1) ∧ W.cell? ⟨B3, 1, none⟩ = some (.slice p2 n2 q2) ∧ W.cell? ⟨B3, 2, none⟩ = some (.slice none 0 0) ∧ W.cell? ⟨B3, 3, none⟩ = some (.slice p4 n4 q4) := fun W hW => by
    refine ⟨?_, ?_, ?_, ?_⟩ <;> simp [World.cell?, hW]
  obtain ⟨⟨c0, c1, c2⟩, _⟩ := h4.c
  obtain ⟨r0, r1, r2, r3⟩ := rc _ rb
  have hd : Bb w W4.drew (.int .i64 (ft : Int)) (.slice a m1 cap) (.slice am m2 cm) := ⟨h4.bel.drew, h4.s0, h4.s1, h4.s2⟩
  have rbd : W4.drew.heap[B3]? = some (.cells #[.slice p1 n1 q1, .slice p2 n2 q2, .slice none 0 0, .slice p4 n4 q4] 41 (0, 0)) := rb
  clear h3 h4 hBa rb
  have ne1 : w.heap.size + 1 ≠ B3 := by omega
  have ne2 : w.heap.size + 1 + 1 ≠ B3 := by omega
  have ne3 : w.heap.size ≠ w.heap.size + 1 + 1 := by omega
  have ne4 : w.heap.size ≠ B3 := by omega
  have ne5 := ne1.symm
  have ne6 := ne2.symm
  have ne7 := ne3.symm
  have ne8 := ne4.symm
  replace hd := Mr.hid hd
  replace rbd := Mr.hid rbd
  replace rc := Mr.hid rc
  replace hv1 := Mr.hid hv1
  replace hv2 := Mr.hid hv2
  replace hv4 := Mr.hid hv4
  replace hn1 := Mr.hid hn1
  replace hn2 := Mr.hid hn2
  replace hn4 := Mr.hid hn4
  go_region_held3 (fun w' => w'.cell? ⟨w.heap.size, 0, none⟩ = some (.int .i64 (ft : Int)) ∧ w'.cell? ⟨w.heap.size, 1, none⟩ = some (.slice a m1 cap) ∧ w'.cell? ⟨w.heap.size, 2, none⟩ = some (.slice am m2 cm) ∧ w'.cell? ⟨B3, 0, none⟩ = some (.slice p1 n1 q1) ∧ w'.cell? ⟨B3, 1, none⟩ = some (.slice p2 n2 q2) ∧ w'.cell? ⟨B3, 2, none⟩ = some (.slice none 0 0) ∧ w'.cell? ⟨B3, 3, none⟩ = some (.slice p4 n4 q4)) (go_keep)
    (first
      | (go_at_call 28; refine (awake_any _).mono ?_; rintro e w5 ⟨rfl, hB5⟩; have h5 := hd.out.below hB5; have rb5 := (hB5.block _ z4).trans rbd.out; obtain ⟨⟨e0, e1, e2⟩, _⟩ := h5.c; obtain ⟨⟨f0, f1, f2⟩, f3⟩ := h5.c1; obtain ⟨⟨g0, g1, g2, g3⟩, g4⟩ := h5.c2; obtain ⟨s0, s1, s2, s3⟩ := rc.out _ rb5; replace h5 := Mr.hid h5; replace hB5 := Mr.hid hB5; replace rb5 := Mr.hid rb5))
  rename_i hHeld
  clear hHeld
  have L1 : w.heap.size ≤ w.heap.size + 1 := by omega
  have L2 : w.heap.size ≤ w.heap.size + 1 + 1 := by omega
  obtain ⟨W6, hW6⟩ : ∃ W6, (((((((w5.setCell ⟨w.heap.size + 1, 0, none⟩ (.int .i64 (ft : Int))).setCell ⟨w.heap.size + 1, 1, none⟩ (.slice a m1 cap)).setCell ⟨w.heap.size + 1, 2, none⟩ (.slice am m2 cm)).setCell ⟨w.heap.size + 1 + 1, 0, none⟩ (.slice p1 n1 q1)).setCell ⟨w.heap.size + 1 + 1, 1, none⟩ (.slice p2 n2 q2)).setCell ⟨w.heap.size + 1 + 1, 2, none⟩ (.slice none 0 0)).setCell ⟨w.heap.size + 1 + 1, 3, none⟩ (.slice p4 n4 q4)) = W6 := ⟨_, rfl⟩
  have hb1 : W6.heap[w.heap.size + 1]? = some (.cells #[.int .i64 (ft : Int), .slice a m1 cap, .slice am m2 cm] 45 (0, 0)) := by
    rw [← hW6, Below.heap_setCell _ _ _ _ (by simp), Below.heap_setCell _ _ _ _ (by simp), Below.heap_setCell _ _ _ _ (by simp), Below.heap_setCell _ _ _ _ (by simp), setBlk (setBlk (setBlk h5.out.s1 0 _) 1 _) 2 _]
    rfl
  have hb2 : W6.heap[w.heap.size + 1 + 1]? = some (.cells #[.slice p1 n1 q1, .slice p2 n2 q2, .slice none 0 0, .slice p4 n4 q4] 41 (0, 0)) := by
    have h0 : (((w5.setCell ⟨w.heap.size + 1, 0, none⟩ (.int .i64 (ft : Int))).setCell ⟨w.heap.size + 1, 1, none⟩ (.slice a m1 cap)).setCell ⟨w.heap.size + 1, 2, none⟩ (.slice am m2 cm)).heap[w.heap.size + 1 + 1]? = some (.cells #[.slice none 0 0, .slice none 0 0, .slice none 0 0, .slice none 0 0] 41 (0, 0)) := by
      rw [Below.heap_setCell _ _ _ _ (by simp), Below.heap_setCell _ _ _ _ (by simp), Below.heap_setCell _ _ _ _ (by simp)]
      exact h5.out.s2
    rw [← hW6, setBlk (setBlk (setBlk (setBlk h0 0 _) 1 _) 2 _) 3 _]
    rfl
  have ho6 : ∀ k, w.heap.size + 1 + 1 < k → W6.heap[k]? = w5.heap[k]? := fun k hk => by
    have k1 : k ≠ w.heap.size + 1 := by omega
    have k2 : k ≠ w.heap.size + 1 + 1 := by omega
    rw [← hW6, Below.heap_setCell _ _ _ k k2, Below.heap_setCell _ _ _ k k2, Below.heap_setCell _ _ _ k k2, Below.heap_setCell _ _ _ k k2, Below.heap_setCell _ _ _ k k1, Below.heap_setCell _ _ _ k k1, Below.heap_setCell _ _ _ k k1]
  have hB6 : Below w.heap.size w W6 := by
    rw [← hW6]
    exact ((((((h5.out.bel.setCell (p := ⟨w.heap.size + 1, 0, none⟩) L1 _).setCell (p := ⟨w.heap.size + 1, 1, none⟩) L1 _).setCell (p := ⟨w.heap.size + 1, 2, none⟩) L1 _).setCell (p := ⟨w.heap.size + 1 + 1, 0, none⟩) L2 _).setCell (p := ⟨w.heap.size + 1 + 1, 1, none⟩) L2 _).setCell (p := ⟨w.heap.size + 1 + 1, 2, none⟩) L2 _).setCell (p := ⟨w.heap.size + 1 + 1, 3, none⟩) L2 _
  have keep : ∀ {e size m : Nat} {v : Value} {xs : List Value}, Has W4 (fun k => w1.heap.size ≤ k) e size v m xs → Has W6 (fun k => w.heap.size ≤ k) e size v m xs := fun {e size m v xs} hh =>
    hh.kept (fun k hk => by
      have := hh.lt k hk
      exact (ho6 k (by omega)).trans (hB5.out.block k this.2)) (fun k hk => by have := (hh.lt k hk).1; omega)
  have x1 := keep hv1.out
  have x2 := keep hv2.out
  have x4 := keep hv4.out
  have d0 : W6.cell? ⟨w.heap.size + 1, 0, none⟩ = some (.int .i64 (ft : Int)) := by simp [World.cell?, hb1]
  have d1 : W6.cell? ⟨w.heap.size + 1, 1, none⟩ = some (.slice a m1 cap) := by simp [World.cell?, hb1]
  have d2 : W6.cell? ⟨w.heap.size + 1, 2, none⟩ = some (.slice am m2 cm) := by simp [World.cell?, hb1]
  have t0 : W6.cell? ⟨w.heap.size + 1 + 1, 0, none⟩ = some (.slice p1 n1 q1) := by simp [World.cell?, hb2]
  have t1 : W6.cell? ⟨w.heap.size + 1 + 1, 1, none⟩ = some (.slice p2 n2 q2) := by simp [World.cell?, hb2]
  have t2 : W6.cell? ⟨w.heap.size + 1 + 1, 2, none⟩ = some (.slice none 0 0) := by simp [World.cell?, hb2]
  have t3 : W6.cell? ⟨w.heap.size + 1 + 1, 3, none⟩ = some (.slice p4 n4 q4) := by simp [World.cell?, hb2]
  rw [hW6]
  clear hW6 hb1 hb2 ho6 keep hv1 hv2 hv4 f0 f1 f2 f3 g0 g1 g2 g3 g4
  replace x1 := Mr.hid x1
  replace x2 := Mr.hid x2
  replace x4 := Mr.hid x4
  replace hB6 := Mr.hid hB6
  go_wp2
  refine bodyPost_ret (v := .tuple #[.agg #[.int .i64 (ft : Int), .slice a m1 cap, .slice am m2 cm], .agg #[.slice p1 n1 q1, .slice p2 n2 q2, .slice none 0 0, .slice p4 n4 q4], .bool true]) (by simp [results, Try.f14, go_sem, d0, d1, d2, t0, t1, t2, t3]) rfl ?_
  unfold Playd
  rw [hft.out, hm1.out, hm2.out, hn1.out, hn2.out, hn4.out]
  exact ⟨_, _, _, rfl, x1.out, x2.out, x4.out, hB6.out⟩
end Go.Proofs.Ytiobchadjcekcaa.Ma
