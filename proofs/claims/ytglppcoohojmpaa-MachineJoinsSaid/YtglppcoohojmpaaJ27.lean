import Derived.Test.YtglppcoohojmpaaJ23
import Derived.Test.YtglppcoohojmpaaJ26
import Derived.Deep.RegionHeldLaw
import Derived.Test.YtglppcoohojmpaaJ14
/-
  THE DOCUMENT's MACHINE: Told, the run so far.
-/
namespace Go.Proofs.Ytglppcoohojmpaa.Rf
open Go.RowKit Mr Me Ma
section
variable {W : World} {U : Nat → Prop} {q : Rc} {vc vl vs : Value} {s : Rs}
theorem has_src {w : World} {S : Nat → Prop} {e size n : Nat} {v : Value} {xs : List Value} (h : Has w S e size v n xs) : ∃ a cap, v = .slice a n cap ∧ (a = none → n = 0) ∧ ∀ w' : World, Below w.heap.size w w' → ∀ ad, a = some ad → ∀ j u, xs[j]? = some u → w'.cell? (ad.add j) = some u := by
  rcases h.2 with ⟨rfl, h0⟩ | ⟨g, cap, cur, rfl, _, hg, _⟩
  · exact ⟨none, 0, by rw [h0], (fun _ => h0), (fun _ _ ad hh => by cases hh)⟩
  · refine ⟨some ⟨g, 0, none⟩, cap, rfl, (fun hh => by cases hh), fun w' hB ad hh j u hu => ?_⟩
    cases hh
    have hgl := (h.lt g rfl).2
    have hadd : (⟨g, 0, none⟩ : Addr).add j = ⟨g, j, none⟩ := by unfold Addr.add; split <;> simp_all
    rw [hadd]
    exact (hB.cell (p := ⟨g, j, none⟩) hgl).trans (h.cells (g := g) rfl j u hu)
theorem one_clc (l : List Cl) : ∀ u ∈ clc l, u.oneCell' = true := by
  intro u hu
  obtain ⟨x, _, hx⟩ := List.mem_flatMap.1 hu
  simp only [Cl.cells, List.mem_cons, List.not_mem_nil, or_false] at hx
  rcases hx with rfl | rfl | rfl | rfl | rfl | rfl | rfl | rfl | rfl <;> rfl
theorem one_lgc (l : List Acc) : ∀ u ∈ lgc l, u.oneCell' = true := by
  intro u hu
  obtain ⟨x, _, hx⟩ := List.mem_flatMap.1 hu
  simp only [Acc.cells, List.mem_cons, List.not_mem_nil, or_false] at hx
  rcases hx with rfl | rfl | rfl | rfl | rfl | rfl | rfl <;> rfl
/-- The world between Told's appends: all that was, and the result's box. -/
def Td (W w : World) : Prop := Below W.heap.size W w ∧ w.heap[W.heap.size]? = some (.cells #[.slice none 0 0, .slice none 0 0, .slice none 0 0, .slice none 0 0] 53 (0, 0)) ∧ W.heap.size < w.heap.size
theorem Td.grown {W w w' : World} (h : Td W w) (hg : w.grownBy w' none) : Td W w' := by
  obtain ⟨h1, h2, h3⟩ := h
  refine ⟨h1.grown hg (by omega) (by simp), ?_, ?_⟩
  · rw [← h2]; exact hg.block _ h3 (by simp)
  · have := hg.size; omega
theorem info_u64' : (Try.prog.info? 59).map (fun i => (i.zero, i.size, i.bytes)) = some (some (.int .u64 0), 1, 8) := by kernel_rfl
theorem info_sh : (Try.prog.info? 130).map (fun i => (i.zero, i.size, i.bytes)) = some (some (.agg #[.int .i64 0, .int .i64 0, .int .i64 0, .int .i64 0, .int .i64 0]), 5, 40) := by kernel_rfl
set_option maxRecDepth 100000 in
set_option maxHeartbeats 4000000 in
theorem Told_any (h : Rm W U q vc vl (.slice none 0 0) s) (h1 : s.cls.length ≤ 100000) (h2 : s.lg.length ≤ 100000) (h3 : s.ws.length ≤ 100000) :
    Calls Try.prog 18 #[.pointer (some ⟨q.b, 0, none⟩)] W fun e w' => ∃ v1 v2 v4, e = .returned (runV v1 v2 (.slice none 0 0) v4) ∧ Has w' (fun k => W.heap.size ≤ k) 78 9 v1 s.cls.length (clc s.cls) ∧ Has w' (fun k => W.heap.size ≤ k) 128 7 v2 s.lg.length (lgc s.lg) ∧ Has w' (fun k => W.heap.size ≤ k) 59 1 v4 s.ws.length (wrd s.ws) ∧ Below W.heap.size W w' := by
  obtain ⟨⟨x7, _, _, _, _⟩, _, x24, x25, x26⟩ := h.cells
  have l1 := h.lt
  obtain ⟨a1, c1, rfl, n1, m1⟩ := has_src h.cl
  obtain ⟨a2, c2, rfl, n2, m2⟩ := has_src h.lg
  obtain ⟨a4, c4, hvw, n4, m4⟩ := has_src h.wd
  rw [hvw] at x7
  obtain ⟨i1, p1, p2, p3, p4⟩ := info_parts info_call
  obtain ⟨i2, q1, q2, q3, q4⟩ := info_parts info_acc
  obtain ⟨i3, r1, r2, r3, r4⟩ := info_parts info_sh
  obtain ⟨i4, t1, t2, t3, t4⟩ := info_parts info_u64'
  have o1 := one_clc s.cls
  have o2 := one_lgc s.lg
  have o4 : ∀ u ∈ wrd s.ws, u.oneCell' = true := by
    intro u hu
    obtain ⟨x, _, rfl⟩ := List.mem_map.1 hu
    rfl
  have e1 : (clc s.cls).length = s.cls.length * 9 := flat_length cl_len s.cls
  have e2 : (lgc s.lg).length = s.lg.length * 7 := (flat_length (f := Acc.cells) (fun _ => rfl) s.lg : (s.lg.flatMap Acc.cells).length = s.lg.length * 7)
  have e4 : (wrd s.ws).length = s.ws.length * 1 := by simp [wrd]
  have KS : ∀ w' : World, Below W.heap.size W w' → w'.cell? ⟨q.b, 7, none⟩ = some (.slice a4 s.ws.length c4) ∧ w'.cell? ⟨q.b, 24, none⟩ = some (.slice a1 s.cls.length c1) ∧ w'.cell? ⟨q.b, 25, none⟩ = some (.slice a2 s.lg.length c2) ∧ w'.cell? ⟨q.b, 26, none⟩ = some (.slice none 0 0) := fun w' hT => by
    obtain ⟨⟨k7, _, _, _, _⟩, _, k24, k25, k26⟩ := (h.below hT).cells
    rw [hvw] at k7
    exact ⟨k7, k24, k25, k26⟩
  have hT0 : Td W (W.alloc (.cells #[.slice none 0 0, .slice none 0 0, .slice none 0 0, .slice none 0 0] 53)).drew := ⟨((Below.refl _ _).alloc (Nat.le_refl _) _).drew, heap_alloc_new _ _, Nat.lt_of_lt_of_eq (Nat.lt_succ_self _) (Array.size_push _).symm⟩
  have M1 := fun (w' : World) (hT : Td W w') => m1 w' hT.1
  have M2 := fun (w' : World) (hT : Td W w') => m2 w' hT.1
  have M4 := fun (w' : World) (hT : Td W w') => m4 w' hT.1
  clear m1 m2 m4
  replace M1 := Mr.hid M1
  replace M2 := Mr.hid M2
  replace M4 := Mr.hid M4
  replace o1 := Mr.hid o1
  replace o2 := Mr.hid o2
  replace o4 := Mr.hid o4
  replace KS := Mr.hid KS
  replace hT0 := Mr.hid hT0
  replace h := Mr.hid h
  clear x7 x24 x25 x26
  go_enter Try.func18, Try.ntmps18
  go_wp2
  go_region_held_law (fun w' => w'.cell? ⟨q.b, 7, none⟩ = some (.slice a4 s.ws.length c4) ∧ w'.cell? ⟨q.b, 24, none⟩ = some (.slice a1 s.cls.length c1) ∧ w'.cell? ⟨q.b, 25, none⟩ = some (.slice a2 s.lg.length c2) ∧ w'.cell? ⟨q.b, 26, none⟩ = some (.slice none 0 0)) (first | exact KS.out _ hT0.out.1 | exact KS.out _ ((((hT4.out.1.setCell (p := ⟨W.heap.size, 0, none⟩) (Nat.le_refl _) _).setCell (p := ⟨W.heap.size, 1, none⟩) (Nat.le_refl _) _).setCell (p := ⟨W.heap.size, 2, none⟩) (Nat.le_refl _) _).setCell (p := ⟨W.heap.size, 3, none⟩) (Nat.le_refl _) _) | go_keep) (first | (refine step_append_fresh _ rfl (.const (.slice none 0 0)) (.tmp 6) 49 rfl (fun k => W.heap.size < k) 78 i1 _ 9 72 Try.underlying49 p1 p2 p3 p4 rfl rfl a1 s.cls.length c1 (clc s.cls) (by first | rfl | simp [Act.eval, Act.put]) e1 n1 (M1.out _ hT0.out) o1.out (by unfold maxLen; omega) (by omega) hT0.out.2.2 ?_; intro v1 w1 hv1 hg1 hat1; have hT1 := Mr.hid (hT0.out.grown hg1); obtain ⟨z1, z2, z3, z4⟩ := KS.out _ hT1.out.1; obtain ⟨pv1, qv1, rfl, _⟩ := hv1.form; replace hv1 := Mr.hid hv1; replace hg1 := Mr.hid hg1; clear hat1) | (refine step_append_fresh _ rfl (.const (.slice none 0 0)) (.tmp 11) 50 rfl (fun k => W.heap.size < k) 128 i2 _ 7 56 Try.underlying50 q1 q2 q3 q4 rfl rfl a2 s.lg.length c2 (lgc s.lg) (by first | rfl | simp [Act.eval, Act.put]) e2 n2 (M2.out _ hT1.out) o2.out (by unfold maxLen; omega) (by omega) hT1.out.2.2 ?_; intro v2 w2 hv2 hg2 hat2; have hT2 := Mr.hid (hT1.out.grown hg2); obtain ⟨z1, z2, z3, z4⟩ := KS.out _ hT2.out.1; obtain ⟨pv2, qv2, rfl, _⟩ := hv2.form; replace hv2 := Mr.hid hv2; replace hg2 := Mr.hid hg2; clear hat2) | (refine step_append_fresh _ rfl (.const (.slice none 0 0)) (.tmp 21) 22 rfl (fun k => W.heap.size < k) 59 i4 _ 1 8 Try.underlying22 t1 t2 t3 t4 rfl rfl a4 s.ws.length c4 (wrd s.ws) (by first | rfl | simp [Act.eval, Act.put]) e4 n4 (M4.out _ hT2.out) o4.out (by unfold maxLen; omega) (by omega) hT2.out.2.2 ?_; intro v4 w4 hv4 hg4 hat4; have hT4 := Mr.hid (hT2.out.grown hg4); obtain ⟨z1, z2, z3, z4⟩ := KS.out _ hT4.out.1; obtain ⟨pv4, qv4, rfl, _⟩ := hv4.form; obtain ⟨kc, kz⟩ := (Bx.cells ⟨hT4.out.1, hT4.out.2.1⟩ : _); have kc0 := kc 0 (by decide); have kc1 := kc 1 (by decide); have kc2 := kc 2 (by decide); have kc3 := kc 3 (by decide); clear kc; replace hv4 := Mr.hid hv4; replace hg4 := Mr.hid hg4; clear hat4))
  obtain ⟨W5, hW5⟩ : ∃ W5, (((w4.setCell ⟨W.heap.size, 0, none⟩ (.slice pv1 s.cls.length qv1)).setCell ⟨W.heap.size, 1, none⟩ (.slice pv2 s.lg.length qv2)).setCell ⟨W.heap.size, 2, none⟩ (.slice none 0 0)).setCell ⟨W.heap.size, 3, none⟩ (.slice pv4 s.ws.length qv4) = W5 := ⟨_, rfl⟩
  have hb5 : W5.heap[W.heap.size]? = some (.cells #[.slice pv1 s.cls.length qv1, .slice pv2 s.lg.length qv2, .slice none 0 0, .slice pv4 s.ws.length qv4] 53 (0, 0)) := by
    rw [← hW5, setBlk (setBlk (setBlk (setBlk hT4.out.2.1 0 _) 1 _) 2 _) 3 _]
    rfl
  have ho5 : ∀ k, k ≠ W.heap.size → W5.heap[k]? = w4.heap[k]? := fun k hk => by
    rw [← hW5, Below.heap_setCell _ _ _ k hk, Below.heap_setCell _ _ _ k hk, Below.heap_setCell _ _ _ k hk, Below.heap_setCell _ _ _ k hk]
  have hB5 : Below W.heap.size W W5 := by
    rw [← hW5]
    exact (((hT4.out.1.setCell (p := ⟨W.heap.size, 0, none⟩) (Nat.le_refl _) _).setCell (p := ⟨W.heap.size, 1, none⟩) (Nat.le_refl _) _).setCell (p := ⟨W.heap.size, 2, none⟩) (Nat.le_refl _) _).setCell (p := ⟨W.heap.size, 3, none⟩) (Nat.le_refl _) _
  have keep : ∀ {e size m : Nat} {v : Value} {xs : List Value}, e ≠ 53 → Has w4 (fun k => W.heap.size ≤ k) e size v m xs → Has W5 (fun k => W.heap.size ≤ k) e size v m xs := fun {e size m v xs} hne hh =>
    hh.kept (fun k hk => ho5 k (fun e' => not_row hT4.out.2.1 hh hne.symm (e' ▸ hk))) (fun k hk => (hh.lt k hk).1)
  have r1 := keep (by decide) (((hv1.out.grown hg2.out (by simp)).grown hg4.out (by simp)).mono (fun k hk => Nat.le_of_lt hk))
  have r2 := keep (by decide) ((hv2.out.grown hg4.out (by simp)).mono (fun k hk => Nat.le_of_lt hk))
  have r4 := keep (by decide) (hv4.out.mono (fun k hk => Nat.le_of_lt hk))
  have d0 : W5.cell? ⟨W.heap.size, 0, none⟩ = some (.slice pv1 s.cls.length qv1) := by simp [World.cell?, hb5]
  have d1 : W5.cell? ⟨W.heap.size, 1, none⟩ = some (.slice pv2 s.lg.length qv2) := by simp [World.cell?, hb5]
  have d2 : W5.cell? ⟨W.heap.size, 2, none⟩ = some (.slice none 0 0) := by simp [World.cell?, hb5]
  have d3 : W5.cell? ⟨W.heap.size, 3, none⟩ = some (.slice pv4 s.ws.length qv4) := by simp [World.cell?, hb5]
  rw [hW5]
  clear hW5 keep ho5 hb5 kc0 kc1 kc2 kc3 kz z1 z2 z3 z4
  replace r1 := Mr.hid r1
  replace r2 := Mr.hid r2
  replace r4 := Mr.hid r4
  go_wp2
  refine bodyPost_ret (v := runV (.slice pv1 s.cls.length qv1) (.slice pv2 s.lg.length qv2) (.slice none 0 0) (.slice pv4 s.ws.length qv4)) (by simp [results, Try.f18, go_sem, d0, d1, d2, d3, runV]) rfl ?_
  exact ⟨_, _, _, rfl, r1.out, r2.out, r4.out, hB5⟩
end
end Go.Proofs.Ytglppcoohojmpaa.Rf
