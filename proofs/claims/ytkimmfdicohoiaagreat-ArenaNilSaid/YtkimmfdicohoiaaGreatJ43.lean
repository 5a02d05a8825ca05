import Derived.Test.YtkimmfdicohoiaaGreatJ40
import Derived.Test.YtkimmfdicohoiaaGreatJ42
import Derived.Deep.RegionHeldLaw
import Derived.Test.YtkimmfdicohoiaaGreatJ32
import Derived.Test.YtkimmfdicohoiaaGreatJ06
import Derived.Test.YtkimmfdicohoiaaGreatJ07
import Derived.Test.YtkimmfdicohoiaaGreatJ39
/-
  THE DOCUMENT's MACHINE: Told, the run so far.
-/
namespace Go.Proofs.YtkimmfdicohoiaaGreat.Rf
open Go.RowKit Mr Me Ma
section
variable {W : World} {U : Nat → Prop} {q : Rc} {vc vl vs : Value} {s : Rs}
theorem has_src {w : World} {S : Nat → Prop} {e size n : Nat} {v : Value} {xs : List Value} (h : Has w S e size v n xs) : ∃ a cap, v = .slice a n cap ∧ (a = none → n = 0) ∧ ∀ w' : World, Below w.heap.size w w' → ∀ ad, a = some ad → ∀ j u, xs[j]? = some u → w'.cell? (ad.add j) = some u := by
  rcases h.2 with ⟨rfl, h0⟩ | ⟨g, cap, cur, rfl, _, hg, _⟩
  · exact ⟨none, 0, by rw [h0], (fun _ => h0), (fun _ _ ad hh => by cases hh)⟩
  · refine ⟨some ⟨g, 0, none⟩, cap, rfl, (fun hh => by cases hh), fun w' hB ad hh j u hu => ?_⟩
    cases hh
    have hgl := (h.lt g rfl).2
    have hadd : (⟨g, 0, none⟩ : Addr).add j = ⟨g, j, none⟩ := by unfold Addr.add; split <;> simp_all
    rw [hadd]
    exact (hB.cell (p := ⟨g, j, none⟩) hgl).trans (h.cells (g := g) rfl j u hu)
theorem one_clc (l : List Cl) : ∀ u ∈ clc l, u.oneCell' = true := by
  intro u hu
  obtain ⟨x, _, hx⟩ := List.mem_flatMap.1 hu
  simp only [Cl.cells, List.mem_cons, List.not_mem_nil, or_false] at hx
  rcases hx with rfl | rfl | rfl | rfl | rfl | rfl | rfl | rfl | rfl <;> rfl
theorem one_lgc (l : List Acc) : ∀ u ∈ lgc l, u.oneCell' = true := by
  intro u hu
  obtain ⟨x, _, hx⟩ := List.mem_flatMap.1 hu
  simp only [Acc.cells, List.mem_cons, List.not_mem_nil, or_false] at hx
  rcases hx with rfl | rfl | rfl | rfl | rfl | rfl | rfl <;> rfl
/-- The world between Told's appends: all that was, and the result's box. -/
def Td (W w : World) : Prop := Below W.heap.size W w ∧ w.heap[W.heap.size]? = some (.cells #[.slice none 0 0, .slice none 0 0, .slice none 0 0, .slice none 0 0] 30 (0, 0)) ∧ W.heap.size < w.heap.size
theorem Td.grown {W w w' : World} (h : Td W w) (hg : w.grownBy w' none) : Td W w' := by
  obtain ⟨h1, h2, h3⟩ := h
  refine ⟨h1.grown hg (by omega) (by simp), ?_, ?_⟩
  · rw [← h2]; exact hg.block _ h3 (by simp)
  · have := hg.size; omega
theorem info_u64' : (Tryz.prog.info? 92).map (fun i => (i.zero, i.size, i.bytes)) = some (some (.int .u64 0), 1, 8) := by kernel_rfl
theorem info_sh : (Tryz.prog.info? 96).map (fun i => (i.zero, i.size, i.bytes)) = some (some (.agg #[.int .i64 0, .int .i64 0, .int .i64 0, .int .i64 0, .int .i64 0]), 5, 40) := by kernel_rfl
set_option maxRecDepth 100000 in
set_option maxHeartbeats 4000000 in
theorem Told_any (h : Rm W U q vc vl (.slice none 0 0) s) (h1 : s.cls.length ≤ 100000) (h2 : s.lg.length ≤ 100000) (h3 : s.ws.length ≤ 100000) :
    Calls Tryz.prog 21 #[.pointer (some ⟨q.b, 0, none⟩)] W fun e w' => ∃ v1 v2 v4, e = .returned (runV v1 v2 (.slice none 0 0) v4) ∧ Has w' (fun k => W.heap.size ≤ k) 90 9 v1 s.cls.length (clc s.cls) ∧ Has w' (fun k => W.heap.size ≤ k) 94 7 v2 s.lg.length (lgc s.lg) ∧ Has w' (fun k => W.heap.size ≤ k) 92 1 v4 s.ws.length (wrd s.ws) ∧ Below W.heap.size W w' := by
  obtain ⟨⟨x7, _, _, _, _⟩, _, x24, x25, x26⟩ := h.cells
  have l1 := h.lt
  obtain ⟨a1, c1, rfl, n1, m1⟩ := has_src h.cl
  obtain ⟨a2, c2, rfl, n2, m2⟩ := has_src h.lg
  obtain ⟨a4, c4, hvw, n4, m4⟩ := has_src h.wd
  rw [hvw] at x7
  obtain ⟨i1, p1, p2, p3, p4⟩ := info_parts info_call
  obtain ⟨i2, q1, q2, q3, q4⟩ := info_parts info_acc
  obtain ⟨i3, r1, r2, r3, r4⟩ := info_parts info_sh
  obtain ⟨i4, t1, t2, t3, t4⟩ := info_parts info_u64'
  have o1 := one_clc s.cls
  have o2 := one_lgc s.lg
  have o4 : ∀ u ∈ wrd s.ws, u.oneCell' = true := by
    intro u hu
    obtain ⟨x, _, rfl⟩ := List.mem_map.1 hu
    rfl
  have e1 : (clc s.cls).length = s.cls.length * 9 := flat_length cl_len s.cls
  have e2 : (lgc s.lg).length = s.lg.length * 7 := (flat_length (f := Acc.cells) (fun _ => rfl) s.lg : (s.lg.flatMap Acc.cells).length = s.lg.length * 7)
  have e4 : (wrd s.ws).length = s.ws.length * 1 := by simp [wrd]
  have KS : ∀ w' : World, Below W.heap.size W w' → w'.cell? ⟨q.b, 7, none⟩ = some (.slice a4 s.ws.length c4) ∧ w'.cell? ⟨q.b, 24, none⟩ = some (.slice a1 s.cls.length c1) ∧ w'.cell? ⟨q.b, 25, none⟩ = some (.slice a2 s.lg.length c2) ∧ w'.cell? ⟨q.b, 26, none⟩ = some (.slice none 0 0) := fun w' hT => by
    obtain ⟨⟨k7, _, _, _, _⟩, _, k24, k25, k26⟩ := (h.below hT).cells
    rw [hvw] at k7
    exact ⟨k7, k24, k25, k26⟩
  have hT0 : Td W (W.alloc (.cells #[.slice none 0 0, .slice none 0 0, .slice none 0 0, .slice none 0 0] 30)).drew := ⟨((Below.refl _ _).alloc (Nat.le_refl _) _).drew, heap_alloc_new _ _, Nat.lt_of_lt_of_eq (Nat.lt_succ_self _) (Array.size_push _).symm⟩
  have M1 := fun (w' : World) (hT : Td W w') => m1 w' hT.1
  have M2 := fun (w' : World) (hT : Td W w') => m2 w' hT.1
  have M4 := fun (w' : World) (hT : Td W w') => m4 w' hT.1
  clear m1 m2 m4
  replace M1 := Mr.hid M1
  replace M2 := Mr.hid M2
  replace M4 := Mr.hid M4
  replace o1 := Mr.hid o1
  replace o2 := Mr.hid o2
  replace o4 := Mr.hid o4
  replace KS := Mr.hid KS
  replace hT0 := Mr.hid hT0
  replace h := Mr.hid h
  clear x7 x24 x25 x26
  go_enter Tryz.func21, Tryz.ntmps21
  go_wp2
  go_region_held_law (fun w' => w'.cell? ⟨q.b, 7, none⟩ = some (.slice a4 s.ws.length c4) ∧ w'.cell? ⟨q.b, 24, none⟩ = some (.slice a1 s.cls.length c1) ∧ w'.cell? ⟨q.b, 25, none⟩ = some (.slice a2 s.lg.length c2) ∧ w'.cell? ⟨q.b, 26, none⟩ = some (.slice none 0 0)) (first | exact KS.out _ hT0.out.1 | exact KS.out _ ((((hT4.out.1.setCell (p := ⟨W.heap.size, 0, none⟩) (Nat.le_refl _) _).setCell (p := ⟨W.heap.size, 1, none⟩) (Nat.le_refl _) _).setCell (p := ⟨W.heap.size, 2, none⟩) (Nat.le_refl _) _).setCell (p := ⟨W.heap.size, 3, none⟩) (Nat.le_refl _) _) | go_keep) (first | (refine step_append_fresh _ rfl (.const (.slice none 0 0)) (.tmp 6) 25 rfl (fun k => W.heap.size < k) 90 i1 _ 9 72 Tryz.underlying25 p1 p2 p3 p4 rfl rfl a1 s.cls.length c1 (clc s.cls) (by first | rfl | simp [Act.eval, Act.put]) e1 n1 (M1.out _ hT0.out) o1.out (by unfold maxLen; omega) (by omega) hT0.out.2.2 ?_; intro v1 w1 hv1 hg1 hat1; have hT1 := Mr.hid (hT0.out.grown hg1); obtain ⟨z1, z2, z3, z4⟩ := KS.out _ hT1.out.1; obtain ⟨pv1, qv1, rfl, _⟩ := hv1.form; replace hv1 := Mr.hid hv1; replace hg1 := Mr.hid hg1; clear hat1) | (refine step_append_fresh _ rfl (.const (.slice none 0 0)) (.tmp 11) 26 rfl (fun k => W.heap.size < k) 94 i2 _ 7 56 Tryz.underlying26 q1 q2 q3 q4 rfl rfl a2 s.lg.length c2 (lgc s.lg) (by first | rfl | simp [Act.eval, Act.put]) e2 n2 (M2.out _ hT1.out) o2.out (by unfold maxLen; omega) (by omega) hT1.out.2.2 ?_; intro v2 w2 hv2 hg2 hat2; have hT2 := Mr.hid (hT1.out.grown hg2); obtain ⟨z1, z2, z3, z4⟩ := KS.out _ hT2.out.1; obtain ⟨pv2, qv2, rfl, _⟩ := hv2.form; replace hv2 := Mr.hid hv2; replace hg2 := Mr.hid hg2; clear hat2) | (refine step_append_fresh _ rfl (.const (.slice none 0 0)) (.tmp 21) 28 rfl (fun k => W.heap.size < k) 92 i4 _ 1 8 Tryz.underlying28 t1 t2 t3 t4 rfl rfl a4 s.ws.length c4 (wrd s.ws) (by first | rfl | simp [Act.eval, Act.put]) e4 n4 (M4.out _ hT2.out) o4.out (by unfold maxLen; omega) (by omega) hT2.out.2.2 ?_; intro v4 w4 hv4 hg4 hat4; have hT4 := Mr.hid (hT2.out.grown hg4); obtain ⟨z1, z2, z3, z4⟩ := KS.out _ hT4.out.1; obtain ⟨pv4, qv4, rfl, _⟩ := hv4.form; obtain ⟨kc, kz⟩ := (Bx.cells ⟨hT4.out.1, hT4.out.2.1⟩ : _); have kc0 := kc 0 (by decide); have kc1 := kc 1 (by decide); have kc2 := kc 2 (by decide); have kc3 := kc 3 (by decide); clear kc; replace hv4 := Mr.hid hv4; replace hg4 := Mr.hid hg4; clear hat4))
  obtain ⟨W5, hW5⟩ : ∃ W5, (((w4.setCell ⟨W.heap.size, 0, none⟩ (.slice pv1 s.cls.length qv1)).setCell ⟨W.heap.size, 1, none⟩ (.slice pv2 s.lg.length qv2)).setCell ⟨W.heap.size, 2, none⟩ (.slice none 0 0)).setCell ⟨W.heap.size, 3, none⟩ (.slice pv4 s.ws.length qv4) = W5 := ⟨_, rfl⟩
  have hb5 : W5.heap[W.heap.size]? = some (.cells #[.slice pv1 s.cls.length qv1, .slice pv2 s.lg.length qv2, .slice none 0 0, .slice pv4 s.ws.length qv4] 30 (0, 0)) := by
    rw [← hW5, setBlk (setBlk (setBlk (setBlk hT4.out.2.1 0 _) 1 _) 2 _) 3 _]
    rfl
  have ho5 : ∀ k, k ≠ W.heap.size → W5.heap[k]? = w4.heap[k]? := fun k hk => by
    rw [← hW5, Below.heap_setCell _ _ _ k hk, Below.heap_setCell _ _ _ k hk, Below.heap_setCell _ _ _ k hk, Below.heap_setCell _ _ _ k hk]
  have hB5 : Below W.heap.size W W5 := by
    rw [← hW5]
    exact (((hT4.out.1.setCell (p := ⟨W.heap.size, 0, none⟩) (Nat.le_refl _) _).setCell (p := ⟨W.heap.size, 1, none⟩) (Nat.le_refl _) _).setCell (p := ⟨W.heap.size, 2, none⟩) (Nat.le_refl _) _).setCell (p := ⟨W.heap.size, 3, none⟩) (Nat.le_refl _) _
  have keep : ∀ {e size m : Nat} {v : Value} {xs : List Value}, e ≠ 30 → Has w4 (fun k => W.heap.size ≤ k) e size v m xs → Has W5 (fun k => W.heap.size ≤ k) e size v m xs := fun {e size m v xs} hne hh =>
    hh.kept (fun k hk => ho5 k (fun e' => not_row hT4.out.2.1 hh hne.symm (e' ▸ hk))) (fun k hk => (hh.lt k hk).1)
  have r1 := keep (by decide) (((hv1.out.grown hg2.out (by simp)).grown hg4.out (by simp)).mono (fun k hk => Nat.le_of_lt hk))
  have r2 := keep (by decide) ((hv2.out.grown hg4.out (by simp)).mono (fun k hk => Nat.le_of_lt hk))
  have r4 := keep (by decide) (hv4.out.mono (fun k hk => Nat.le_of_lt hk))
  have d0 : W5.cell? ⟨W.heap.size, 0, none⟩ = some (.slice pv1 s.cls.length qv1) := by simp [World.cell?, hb5]
  have d1 : W5.cell? ⟨W.heap.size, 1, none⟩ = some (.slice pv2 s.lg.length qv2) := by simp [World.cell?, hb5]
  have d2 : W5.cell? ⟨W.heap.size, 2, none⟩ = some (.slice none 0 0) := by simp [World.cell?, hb5]
  have d3 : W5.cell? ⟨W.heap.size, 3, none⟩ = some (.slice pv4 s.ws.length qv4) := by simp [World.cell?, hb5]
  rw [hW5]
  clear hW5 keep ho5 hb5 kc0 kc1 kc2 kc3 kz z1 z2 z3 z4
  replace r1 := Mr.hid r1
  replace r2 := Mr.hid r2
  replace r4 := Mr.hid r4
  go_wp2
  refine bodyPost_ret (v := runV (.slice pv1 s.cls.length qv1) (.slice pv2 s.lg.length qv2) (.slice none 0 0) (.slice pv4 s.ws.length qv4)) (by simp [results, Tryz.f21, go_sem, d0, d1, d2, d3, runV]) rfl ?_
  exact ⟨_, _, _, rfl, r1.out, r2.out, r4.out, hB5⟩
end
end Go.Proofs.YtkimmfdicohoiaaGreat.Rf
/-
  CONTRACTS of the document's answers on places: Many, Base, Size, Addr, At.
-/
namespace Go.Proofs.YtkimmfdicohoiaaGreat.Wm
open Go.RowKit
open Wc
set_option linter.unusedVariables false
set_option maxHeartbeats 1000000 in
theorem refMany (a0 a1 a2 a3 a4 a5 a6 r : Int) (w : World) (hok : Ok a1 a2 a5 a6) :
    Calls Tryz.prog 81 #[.agg #[.int .i64 a0, .int .i64 a1, .int .i64 a2, .int .i64 a3, .int .i64 a4, .int .i64 a5, .int .i64 a6], .int .i64 r] w fun e w' =>
      e = .returned (.int .i64 (many a1 a2 a5 a6 r)) ∧ Below w.heap.size w w' := by
  obtain ⟨o1, o2, o3, o4, o5, o6, o7, o8⟩ := hok
  by_cases h9 : r = 9
  · subst h9
    have m1 : 0 ≤ a1 * a2 := Int.mul_nonneg (by omega) (by omega)
    have m2 : a1 * a2 ≤ 16 * 8 := Int.mul_le_mul o2 o4 (by omega) (by omega)
    go_enter Tryz.func81, Tryz.ntmps81
    go_wp2
    go_ret
    exact ⟨by simp [many, items, each], (Below.refl _ _).alloc (Nat.le_refl _) _⟩
  have e9 : (r == 9) = false := by simpa using h9
  by_cases h7 : r = 7
  · subst h7
    go_enter Tryz.func81, Tryz.ntmps81
    go_wp2
    go_ret
    exact ⟨by simp [many, items, each], (Below.refl _ _).alloc (Nat.le_refl _) _⟩
  have e7 : (r == 7) = false := by simpa using h7
  by_cases h8 : r = 8
  · subst h8
    go_enter Tryz.func81, Tryz.ntmps81
    go_wp2
    go_ret
    exact ⟨by simp [many, items, each], (Below.refl _ _).alloc (Nat.le_refl _) _⟩
  have e8 : (r == 8) = false := by simpa using h8
  by_cases h10 : r = 10
  · subst h10
    go_enter Tryz.func81, Tryz.ntmps81
    go_wp2
    go_ret
    exact ⟨by simp [many, items, each], (Below.refl _ _).alloc (Nat.le_refl _) _⟩
  have e10 : (r == 10) = false := by simpa using h10
  by_cases h11 : r = 11
  · subst h11
    go_enter Tryz.func81, Tryz.ntmps81
    go_wp2
    go_ret
    exact ⟨by simp [many, items, each], (Below.refl _ _).alloc (Nat.le_refl _) _⟩
  have e11 : (r == 11) = false := by simpa using h11
  by_cases h12 : r = 12
  · subst h12
    go_enter Tryz.func81, Tryz.ntmps81
    go_wp2
    go_ret
    exact ⟨by simp [many, items, each], (Below.refl _ _).alloc (Nat.le_refl _) _⟩
  have e12 : (r == 12) = false := by simpa using h12
  by_cases h13 : r = 13
  · subst h13
    go_enter Tryz.func81, Tryz.ntmps81
    go_wp2
    go_ret
    exact ⟨by simp [many, items, each], (Below.refl _ _).alloc (Nat.le_refl _) _⟩
  have e13 : (r == 13) = false := by simpa using h13
  have hm : many a1 a2 a5 a6 r = 1 := by unfold many items each; rw [if_neg h7, if_neg h8, if_neg h9, if_neg (by omega), if_neg h9]; rfl
  rw [hm]
  clear h7 h8 h9 h10 h11 h12 h13 hm
  go_enter Tryz.func81, Tryz.ntmps81
  go_wp2
  go_ret
  exact ⟨rfl, (Below.refl _ _).alloc (Nat.le_refl _) _⟩
set_option maxHeartbeats 1000000 in
theorem refBase (a0 a1 a2 a3 a4 a5 a6 : Int) (k : Nat) (w : World) (hok : Ok a1 a2 a5 a6) (h1 : 1 ≤ k) (h2 : k ≤ 14) :
    Calls Tryz.prog 47 #[.agg #[.int .i64 a0, .int .i64 a1, .int .i64 a2, .int .i64 a3, .int .i64 a4, .int .i64 a5, .int .i64 a6], .int .i64 (k : Int)] w fun e w' =>
      e = .returned (.int .i64 (base a1 a2 a5 a6 k)) ∧ Below w.heap.size w w' := by
  go_enter Tryz.func47, Tryz.ntmps47
  go_wp2
  go_loopw [5, 6] (fun t i w' => ∃ j : Nat, 1 ≤ j ∧ j ≤ k ∧ i = .int .i64 (j : Int) ∧ t = .int .i64 (base a1 a2 a5 a6 j) ∧ Below (w.heap.size + 1) (w.alloc (.cells #[.int .i64 a0, .int .i64 a1, .int .i64 a2, .int .i64 a3, .int .i64 a4, .int .i64 a5, .int .i64 a6] 23)) w') (fun _ i _ => k - (intOf i).toNat)
  case atStart => exact ⟨1, by omega, h1, rfl, rfl, Bx.box0 _ _⟩
  case round =>
    obtain ⟨j, j1, j2, rfl, rfl, B⟩ := hrel
    have q := Bx.boxCell B
    have bb := base_bd hok j
    have mb := many_bd hok (j : Int)
    have bs : Hid (base a1 a2 a5 a6 (j + 1) = base a1 a2 a5 a6 j + many a1 a2 a5 a6 (j : Int)) := base_succ a1 a2 a5 a6 j j1
    by_cases hlt : j < k
    · go_wp2_with fail
      refine (refMany _ _ _ _ _ _ _ _ _ hok).mono ?_
      rintro e w1 ⟨rfl, hb1⟩
      have B1 := Bx.boxSeq B hb1
      clear hb1 q B
      go_wp2_with fail
      exact ⟨⟨j + 1, by omega, by omega, by go_num, by rw [bs.out], B1⟩, by simp [intOf]; omega⟩
    · have : j = k := by omega
      subst this
      go_wp2_with fail
      go_ret
      exact ⟨rfl, Bx.boxEnd B⟩
theorem refBase_i (a0 a1 a2 a3 a4 a5 a6 r : Int) (w : World) (hok : Ok a1 a2 a5 a6) (h1 : 1 ≤ r) (h2 : r ≤ 14) :
    Calls Tryz.prog 47 #[.agg #[.int .i64 a0, .int .i64 a1, .int .i64 a2, .int .i64 a3, .int .i64 a4, .int .i64 a5, .int .i64 a6], .int .i64 r] w fun e w' =>
      e = .returned (.int .i64 (base a1 a2 a5 a6 r.toNat)) ∧ Below w.heap.size w w' := by
  obtain ⟨k, rfl⟩ := Int.eq_ofNat_of_zero_le (show 0 ≤ r by omega)
  exact refBase a0 a1 a2 a3 a4 a5 a6 k w hok (by omega) (by omega)
theorem ret1 {a b : Int} (h : a = b) : Ending.returned (.int .i64 a) = .returned (.int .i64 b) := by rw [h]
theorem size_sum {a1 a2 a5 a6 : Int} (hok : Ok a1 a2 a5 a6) : IntKind.i64.wrap (base a1 a2 a5 a6 ((13 : Int).toNat) + a5) = base a1 a2 a5 a6 14 := by
  have bb := base_bd hok 13
  have e : base a1 a2 a5 a6 14 = base a1 a2 a5 a6 13 + a5 := by
    rw [base_succ _ _ _ _ 13 (by omega)]; simp [many, items, each]
  obtain ⟨o1, o2, o3, o4, o5, o6, o7, o8⟩ := hok
  show IntKind.i64.wrap (base a1 a2 a5 a6 13 + a5) = _
  rw [e, i64w _ (by omega) (by omega)]
set_option maxHeartbeats 1000000 in
theorem refSize (a0 a1 a2 a3 a4 a5 a6 : Int) (w : World) (hok : Ok a1 a2 a5 a6) :
    Calls Tryz.prog 44 #[.agg #[.int .i64 a0, .int .i64 a1, .int .i64 a2, .int .i64 a3, .int .i64 a4, .int .i64 a5, .int .i64 a6]] w fun e w' =>
      e = .returned (.int .i64 (base a1 a2 a5 a6 14)) ∧ Below w.heap.size w w' := by
  go_enter Tryz.func44, Tryz.ntmps44
  go_wp2_with fail
  go_region_held3 (fun W => W.cell? ⟨w.heap.size, 0, none⟩ = some (.int .i64 a0) ∧ W.cell? ⟨w.heap.size, 1, none⟩ = some (.int .i64 a1) ∧ W.cell? ⟨w.heap.size, 2, none⟩ = some (.int .i64 a2) ∧ W.cell? ⟨w.heap.size, 3, none⟩ = some (.int .i64 a3) ∧ W.cell? ⟨w.heap.size, 4, none⟩ = some (.int .i64 a4) ∧ W.cell? ⟨w.heap.size, 5, none⟩ = some (.int .i64 a5) ∧ W.cell? ⟨w.heap.size, 6, none⟩ = some (.int .i64 a6)) (simp [*, go_sem])
    (first
      | (go_at_call 47; refine (refBase_i _ _ _ _ _ _ _ _ _ hok (by omega) (by omega)).mono ?_; rintro e w3 ⟨rfl, hb3⟩; have B3 := Bx.boxSeq (Bx.box0 _ _).drew hb3; clear hb3; have qa := Bx.boxCell B3))
  go_wp2_with fail
  go_ret
  exact ⟨ret1 (size_sum hok), Bx.boxEnd B3⟩
end Go.Proofs.YtkimmfdicohoiaaGreat.Wm
/-
  CONTRACT of the document's First.
-/
namespace Go.Proofs.YtkimmfdicohoiaaGreat.Wr
open Go.RowKit
open Wc Wm
set_option linter.unusedVariables false
theorem refPackHead0 (i : Int) (w : World) (h1 : -1 ≤ i) (h2 : i ≤ 2147483646) :
    Calls Tryz.prog 45 #[.int .u64 0, .int .i64 i] w fun e w' => e = .returned (.int .u64 (i + 1)) ∧ Below w.heap.size w w' := by
  go_enter Tryz.func45, Tryz.ntmps45
  go_wp2
  go_ret
  exact ⟨by simp, Below.refl _ _⟩
theorem refPackLinkF (i : Int) (w : World) (h1 : -1 ≤ i) (h2 : i ≤ 2147483646) :
    Calls Tryz.prog 46 #[.int .i64 i, .bool false] w fun e w' => e = .returned (.int .u64 (i + 1)) ∧ w' = w := by
  go_enter Tryz.func46, Tryz.ntmps46
  go_wp2
  go_ret
  exact ⟨rfl, rfl⟩
set_option maxHeartbeats 2000000 in
theorem refFirst_a (a0 a1 a2 a3 a4 a5 a6 : Int) (U n m : Nat) (w : World) (hok : Ok a1 a2 a5 a6) (hn : base a1 a2 a5 a6 14 = (n : Int)) (hm : base a1 a2 a5 a6 10 = (m : Int)) (hnm : (m : Int) + 4 * a5 ≤ n) (hm6 : 6 < m) (ha : a5 ≤ 1024) (hn6 : n ≤ 65536) (h1 : (U : Int) < a5) (hp : 0 < U) :
    Calls Tryz.prog 14 #[.agg #[.int .i64 a0, .int .i64 a1, .int .i64 a2, .int .i64 a3, .int .i64 a4, .int .i64 a5, .int .i64 a6], .int .i64 (U : Int)] w fun e w' =>
      ∃ b : Nat, e = .returned (.slice (some ⟨b, 0, none⟩) n n) ∧ w.heap.size ≤ b ∧ Row w' b n (memF ((U : Int) + 1) 1 1 m (U : Int) (a5 - 1)) ∧ Below w.heap.size w w' := by
  have hmk := mk_nat n (by omega)
  have e4 := base4 a1 a2 a5 a6
  have e5 := base5 a1 a2 a5 a6
  go_enter Tryz.func14, Tryz.ntmps14
  go_wp2_with fail
  refine (refSize _ _ _ _ _ _ _ _ hok).mono ?_
  rintro e w1 ⟨rfl, hb⟩
  have B := Bx.boxSeq (Bx.box0 _ _) hb
  clear hb
  have q := Bx.boxCell B
  have qq := Bx.oneAlloc B
  go_wp2_with fail
  refine (refPackHead0 _ _ (by omega) (by omega)).mono ?_
  rintro e w2 ⟨rfl, hb⟩
  have R2 := ((Row.made w1 n 92).congr (g := memF 0 0 0 m (U : Int) (U : Int)) (fun i _ => memF_zero _ _ i)).below hb
  have B2 := Bx.boxSeq (row_alloc B _) hb
  have hbl := box_le B
  clear hb q qq hmk B
  generalize w1.heap.size = b at *
  have c0 := R2.cell 0 (by omega)
  have f0 := R2.free 0 (by omega)
  have q := Bx.boxCell B2
  go_wp2_with fail
  have R3 := R2.set 0 ((U : Int) + 1) (memF ((U : Int) + 1) 0 0 m (U : Int) (U : Int)) (by omega) (fun i _ => memF_head _ _ _ _ _ _ _ i)
  have B3 := B2.setCell (p := ⟨b, 0, none⟩) hbl (.int .u64 ((U : Int) + 1))
  clear q c0 f0 R2 B2
  go_loopw [6] (fun s W => ∃ k : Nat, U ≤ k ∧ (k : Int) ≤ (a5 - 1) ∧ s = .int .i64 (k : Int) ∧ Row W b n (memF ((U : Int) + 1) 0 0 m (U : Int) (k : Int)) ∧ Below (w.heap.size + 1) (w.alloc (.cells #[.int .i64 a0, .int .i64 a1, .int .i64 a2, .int .i64 a3, .int .i64 a4, .int .i64 a5, .int .i64 a6] 23)) W) (fun s _ => (a5 - intOf s).toNat)
  case atStart => exact ⟨U, by omega, by omega, rfl, R3, B3⟩
  case round =>
    obtain ⟨k, k1, k2, rfl, R, B⟩ := hrel
    clear R3 B3
    have q := Bx.boxCell B
    by_cases hlt : (k : Int) + 1 < a5
    · go_wp2_with fail
      refine (refBase_i _ _ _ _ _ _ _ 10 _ hok (by decide) (by decide)).mono ?_
      rintro e w3 ⟨rfl, hb⟩
      replace R := R.below hb
      replace B := Bx.boxSeq B hb
      clear hb q
      have ck := R.cell (m + k) (by omega)
      have fk := R.free (m + k) (by omega)
      go_wp2_with (go_at_call 46; refine (refPackLinkF _ _ (by omega) (by omega)).mono ?_; rintro e w3 ⟨rfl, rfl⟩)
      have R' := R.set (m + k) ((k : Int) + 1 + 1) (memF ((U : Int) + 1) 0 0 m (U : Int) ((k + 1 : Nat) : Int)) (by omega) (fun i _ => spare_step _ _ _ _ _ _ hm6 k1 i)
      have B' := B.setCell (p := ⟨b, m + k, none⟩) hbl (.int .u64 ((k : Int) + 1 + 1))
      exact ⟨⟨k + 1, by omega, by omega, by go_num, R', B'⟩, by simp [intOf]; omega⟩
    · have hk : (k : Int) = a5 - 1 := by omega
      have RR : Hid (Row wr b n (memF ((U : Int) + 1) 0 0 m (U : Int) (a5 - 1))) := by rw [← hk]; exact R
      clear hk R
      have hk1 : ¬ (k : Int) + 1 < a5 := hlt
      go_wp2_with fail
      refine (refBase_i _ _ _ _ _ _ _ 4 _ hok (by decide) (by decide)).mono ?_
      rintro e w4 ⟨rfl, hb⟩
      have R4 := (Hid.out RR).below hb
      have B4 := Bx.boxSeq B hb
      clear hb q B RR
      have c3 := R4.cell 3 (by omega)
      have f3 := R4.free 3 (by omega)
      have q := Bx.boxCell B4
      go_wp2_with (go_at_call 46; refine (refPackLinkF _ _ (by omega) (by omega)).mono ?_; rintro e w4 ⟨rfl, rfl⟩)
      refine (refBase_i _ _ _ _ _ _ _ 5 _ hok (by decide) (by decide)).mono ?_
      rintro e w5 ⟨rfl, hb⟩
      have R5 := (R4.set 3 1 (memF ((U : Int) + 1) 1 0 m (U : Int) (a5 - 1)) (by omega) (fun i _ => memF_three _ _ _ _ _ _ _ i)).below hb
      have B5 := Bx.boxSeq (B4.setCell (p := ⟨b, 3, none⟩) hbl _) hb
      clear hb q c3 f3 R4 B4
      have c4 := R5.cell 4 (by omega)
      have f4 := R5.free 4 (by omega)
      go_wp2_with (go_at_call 46; refine (refPackLinkF _ _ (by omega) (by omega)).mono ?_; rintro e w5 ⟨rfl, rfl⟩)
      go_ret
      exact ⟨b, rfl, by omega, R5.set 4 1 (memF ((U : Int) + 1) 1 1 m (U : Int) (a5 - 1)) (by omega) (fun i _ => memF_four _ _ _ _ _ _ _ i), Bx.boxEnd (B5.setCell (p := ⟨b, 4, none⟩) hbl _)⟩
set_option maxHeartbeats 2000000 in
theorem refFirst_b (a0 a1 a2 a3 a4 a5 a6 : Int) (n m : Nat) (w : World) (hok : Ok a1 a2 a5 a6) (hn : base a1 a2 a5 a6 14 = (n : Int)) (hm : base a1 a2 a5 a6 10 = (m : Int)) (hnm : (m : Int) + 4 * a5 ≤ n) (hm6 : 6 < m) (ha : a5 ≤ 1024) (hn6 : n ≤ 65536) (h1 : 0 < a5) :
    Calls Tryz.prog 14 #[.agg #[.int .i64 a0, .int .i64 a1, .int .i64 a2, .int .i64 a3, .int .i64 a4, .int .i64 a5, .int .i64 a6], .int .i64 0] w fun e w' =>
      ∃ b : Nat, e = .returned (.slice (some ⟨b, 0, none⟩) n n) ∧ w.heap.size ≤ b ∧ Row w' b n (memF 1 0 0 m ((0 : Nat) : Int) (a5 - 1)) ∧ Below w.heap.size w w' := by
  have hmk := mk_nat n (by omega)
  have e4 := base4 a1 a2 a5 a6
  have e5 := base5 a1 a2 a5 a6
  go_enter Tryz.func14, Tryz.ntmps14
  go_wp2_with fail
  refine (refSize _ _ _ _ _ _ _ _ hok).mono ?_
  rintro e w1 ⟨rfl, hb⟩
  have B := Bx.boxSeq (Bx.box0 _ _) hb
  clear hb
  have q := Bx.boxCell B
  have qq := Bx.oneAlloc B
  go_wp2_with fail
  refine (refPackHead0 _ _ (by omega) (by omega)).mono ?_
  rintro e w2 ⟨rfl, hb⟩
  have R2 := ((Row.made w1 n 92).congr (g := memF 0 0 0 m ((0 : Nat) : Int) ((0 : Nat) : Int)) (fun i _ => memF_zero _ _ i)).below hb
  have B2 := Bx.boxSeq (row_alloc B _) hb
  have hbl := box_le B
  clear hb q qq hmk B
  generalize w1.heap.size = b at *
  have c0 := R2.cell 0 (by omega)
  have f0 := R2.free 0 (by omega)
  have q := Bx.boxCell B2
  go_wp2_with fail
  have R3 := R2.set 0 1 (memF 1 0 0 m ((0 : Nat) : Int) ((0 : Nat) : Int)) (by omega) (fun i _ => memF_head _ _ _ _ _ _ _ i)
  have B3 := B2.setCell (p := ⟨b, 0, none⟩) hbl (.int .u64 1)
  clear q c0 f0 R2 B2
  go_loopw [6] (fun s W => ∃ k : Nat, 0 ≤ k ∧ (k : Int) ≤ (a5 - 1) ∧ s = .int .i64 (k : Int) ∧ Row W b n (memF 1 0 0 m ((0 : Nat) : Int) (k : Int)) ∧ Below (w.heap.size + 1) (w.alloc (.cells #[.int .i64 a0, .int .i64 a1, .int .i64 a2, .int .i64 a3, .int .i64 a4, .int .i64 a5, .int .i64 a6] 23)) W) (fun s _ => (a5 - intOf s).toNat)
  case atStart => exact ⟨0, by omega, by omega, rfl, R3, B3⟩
  case round =>
    obtain ⟨k, k1, k2, rfl, R, B⟩ := hrel
    clear R3 B3
    have q := Bx.boxCell B
    by_cases hlt : (k : Int) + 1 < a5
    · go_wp2_with fail
      refine (refBase_i _ _ _ _ _ _ _ 10 _ hok (by decide) (by decide)).mono ?_
      rintro e w3 ⟨rfl, hb⟩
      replace R := R.below hb
      replace B := Bx.boxSeq B hb
      clear hb q
      have ck := R.cell (m + k) (by omega)
      have fk := R.free (m + k) (by omega)
      go_wp2_with (go_at_call 46; refine (refPackLinkF _ _ (by omega) (by omega)).mono ?_; rintro e w3 ⟨rfl, rfl⟩)
      have R' := R.set (m + k) ((k : Int) + 1 + 1) (memF 1 0 0 m ((0 : Nat) : Int) ((k + 1 : Nat) : Int)) (by omega) (fun i _ => spare_step _ _ _ _ _ _ hm6 k1 i)
      have B' := B.setCell (p := ⟨b, m + k, none⟩) hbl (.int .u64 ((k : Int) + 1 + 1))
      exact ⟨⟨k + 1, by omega, by omega, by go_num, R', B'⟩, by simp [intOf]; omega⟩
    · have hk : (k : Int) = a5 - 1 := by omega
      have RR : Hid (Row wr b n (memF 1 0 0 m ((0 : Nat) : Int) (a5 - 1))) := by rw [← hk]; exact R
      clear hk R
      have hk1 : ¬ (k : Int) + 1 < a5 := hlt
      go_wp2_with fail
      go_ret
      exact ⟨b, rfl, by omega, Hid.out RR, Bx.boxEnd B⟩
set_option maxHeartbeats 2000000 in
theorem refFirst_c (a0 a1 a2 a3 a4 a5 a6 : Int) (U n m : Nat) (w : World) (hok : Ok a1 a2 a5 a6) (hn : base a1 a2 a5 a6 14 = (n : Int)) (hm : base a1 a2 a5 a6 10 = (m : Int)) (hnm : (m : Int) + 4 * a5 ≤ n) (hm6 : 6 < m) (ha : a5 ≤ 1024) (hn6 : n ≤ 65536) (h1 : (U : Int) = a5) (hp : 0 < U) :
    Calls Tryz.prog 14 #[.agg #[.int .i64 a0, .int .i64 a1, .int .i64 a2, .int .i64 a3, .int .i64 a4, .int .i64 a5, .int .i64 a6], .int .i64 (U : Int)] w fun e w' =>
      ∃ b : Nat, e = .returned (.slice (some ⟨b, 0, none⟩) n n) ∧ w.heap.size ≤ b ∧ Row w' b n (memF 0 1 1 m (U : Int) (U : Int)) ∧ Below w.heap.size w w' := by
  have hmk := mk_nat n (by omega)
  have e4 := base4 a1 a2 a5 a6
  have e5 := base5 a1 a2 a5 a6
  have hlt : decide ((U : Int) < a5) = false := by simp; omega
  have h1a : a5 ≤ (U : Int) := by omega
  have h1b : (U : Int) ≤ a5 := by omega
  clear h1
  go_enter Tryz.func14, Tryz.ntmps14
  go_wp2_with fail
  refine (refSize _ _ _ _ _ _ _ _ hok).mono ?_
  rintro e w1 ⟨rfl, hb⟩
  have B := Bx.boxSeq (Bx.box0 _ _) hb
  clear hb
  have q := Bx.boxCell B
  have qq := Bx.oneAlloc B
  go_wp2_with fail
  have R3 := (Row.made w1 n 92).congr (g := memF 0 0 0 m (U : Int) (U : Int)) (fun i _ => memF_zero _ _ i)
  have B3 := row_alloc B (.cells (madeCells #[.int .u64 0] n) 92)
  have hbl := box_le B
  clear q qq hmk B
  generalize hbw : w1.heap.size = b at *
  go_loopw [6] (fun s W => ∃ k : Nat, U ≤ k ∧ (k : Int) ≤ (U : Int) ∧ s = .int .i64 (k : Int) ∧ Row W b n (memF 0 0 0 m (U : Int) (k : Int)) ∧ Below (w.heap.size + 1) (w.alloc (.cells #[.int .i64 a0, .int .i64 a1, .int .i64 a2, .int .i64 a3, .int .i64 a4, .int .i64 a5, .int .i64 a6] 23)) W) (fun s _ => (a5 - intOf s).toNat)
  case atStart => exact ⟨U, by omega, by omega, rfl, R3, B3⟩
  case round =>
    obtain ⟨k, k1, k2, rfl, R, B⟩ := hrel
    clear R3 B3
    have q := Bx.boxCell B
    · have hlt : ¬ (k : Int) + 1 < a5 := by omega
      have hk : (k : Int) = (U : Int) := by omega
      have RR : Hid (Row wr b n (memF 0 0 0 m (U : Int) (U : Int))) := by rw [hk] at R; exact R
      clear hk R
      go_wp2_with fail
      refine (refBase_i _ _ _ _ _ _ _ 4 _ hok (by decide) (by decide)).mono ?_
      rintro e w4 ⟨rfl, hb⟩
      have R4 := (Hid.out RR).below hb
      have B4 := Bx.boxSeq B hb
      clear hb q B RR
      have c3 := R4.cell 3 (by omega)
      have f3 := R4.free 3 (by omega)
      have q := Bx.boxCell B4
      go_wp2_with (go_at_call 46; refine (refPackLinkF _ _ (by omega) (by omega)).mono ?_; rintro e w4 ⟨rfl, rfl⟩)
      refine (refBase_i _ _ _ _ _ _ _ 5 _ hok (by decide) (by decide)).mono ?_
      rintro e w5 ⟨rfl, hb⟩
      have R5 := (R4.set 3 1 (memF 0 1 0 m (U : Int) (U : Int)) (by omega) (fun i _ => memF_three _ _ _ _ _ _ _ i)).below hb
      have B5 := Bx.boxSeq (B4.setCell (p := ⟨b, 3, none⟩) hbl _) hb
      clear hb q c3 f3 R4 B4
      have c4 := R5.cell 4 (by omega)
      have f4 := R5.free 4 (by omega)
      go_wp2_with (go_at_call 46; refine (refPackLinkF _ _ (by omega) (by omega)).mono ?_; rintro e w5 ⟨rfl, rfl⟩)
      go_ret
      exact ⟨b, rfl, by omega, R5.set 4 1 (memF 0 1 1 m (U : Int) (U : Int)) (by omega) (fun i _ => memF_four _ _ _ _ _ _ _ i), Bx.boxEnd (B5.setCell (p := ⟨b, 4, none⟩) hbl _)⟩
end Go.Proofs.YtkimmfdicohoiaaGreat.Wr
/-
  The document's First, joined.
-/
namespace Go.Proofs.YtkimmfdicohoiaaGreat.Wr
open Go.RowKit
open Wc Wm
theorem refFirst_all (a0 a1 a2 a3 a4 a5 a6 u : Int) (n : Nat) (w : World) (hok : Ok a1 a2 a5 a6) (hn : base a1 a2 a5 a6 14 = (n : Int)) (h0 : 0 ≤ u) (h1 : u ≤ a5) :
    Calls Tryz.prog 14 #[.agg #[.int .i64 a0, .int .i64 a1, .int .i64 a2, .int .i64 a3, .int .i64 a4, .int .i64 a5, .int .i64 a6], .int .i64 u] w fun e w' =>
      ∃ b : Nat, e = .returned (.slice (some ⟨b, 0, none⟩) n n) ∧ w.heap.size ≤ b ∧ Row w' b n (fstF a1 a2 a5 a6 u) ∧ Below w.heap.size w w' := by
  obtain ⟨n', m, hn', hm, g1, g2, g3, g4⟩ := sizes hok
  obtain rfl : n' = n := by omega
  obtain ⟨U, rfl⟩ := Int.eq_ofNat_of_zero_le h0
  unfold fstF
  rw [hm]
  by_cases c1 : (U : Int) < a5
  · rw [if_pos c1, if_pos c1]
    by_cases c2 : 0 < U
    · rw [if_pos (by omega)]
      exact refFirst_a a0 a1 a2 a3 a4 a5 a6 U n' m w hok hn hm g1 g2 g3 g4 c1 c2
    · obtain rfl : U = 0 := by omega
      rw [if_neg (by omega)]
      exact refFirst_b a0 a1 a2 a3 a4 a5 a6 n' m w hok hn hm g1 g2 g3 g4 (by omega)
  · rw [if_neg c1, if_neg c1]
    have o := hok
    obtain ⟨o1, o2, o3, o4, o5, o6, o7, o8⟩ := o
    rw [if_pos (by omega)]
    exact refFirst_c a0 a1 a2 a3 a4 a5 a6 U n' m w hok hn hm g1 g2 g3 g4 (by omega) (by omega)
end Go.Proofs.YtkimmfdicohoiaaGreat.Wr
/-
  A configuration's box.
-/
namespace Go.Proofs.YtkimmfdicohoiaaGreat.Ar
open Go.RowKit Go.Shelf Mr Me Ma Wc Wm Wr
theorem cf_box2 (w : World) (c : Cf) : (w.alloc (cfO c)).cell? ⟨w.heap.size, 0, none⟩ = some (.int .i64 c.a0) ∧ (w.alloc (cfO c)).cell? ⟨w.heap.size, 1, none⟩ = some (.int .i64 c.a1) ∧ (w.alloc (cfO c)).cell? ⟨w.heap.size, 2, none⟩ = some (.int .i64 c.a2) ∧ (w.alloc (cfO c)).cell? ⟨w.heap.size, 3, none⟩ = some (.int .i64 c.a3) ∧ (w.alloc (cfO c)).cell? ⟨w.heap.size, 4, none⟩ = some (.int .i64 c.a4) ∧ (w.alloc (cfO c)).cell? ⟨w.heap.size, 5, none⟩ = some (.int .i64 c.a5) ∧ (w.alloc (cfO c)).cell? ⟨w.heap.size, 6, none⟩ = some (.int .i64 c.a6) := by
  have hb : (w.alloc (cfO c)).heap[w.heap.size]? = some (cfO c) := heap_alloc_new w _
  generalize w.alloc (cfO c) = W at *
  simp [cfO] at hb
  simp [World.cell?, hb]
theorem Ka.box {w W : World} {c : Cf} {B : Nat} {v1 v2 v3 v4 : Value} {P : Pa} (h : Ka w W c B v1 v2 v3 v4 P) (o : Obj) : Ka w (W.alloc o) c B v1 v2 v3 v4 P := h.below ((Below.refl _ _).alloc (Nat.le_refl _) o)
theorem box_kept {W : World} {k : Nat} {o : Obj} (h : W.heap[k]? = some o) (o' : Obj) : (W.alloc o').heap[k]? = some o := (Below.heap_alloc _ _ _ (Array.getElem?_eq_some_iff.1 h).1).trans h
/-- A call in a box. -/
def clO (x : Cl) : Obj := .cells #[.int .i64 x.th, .int .i64 x.op, .int .i64 x.arg, .int .i64 x.data, .int .i64 x.beg, .int .i64 x.fin, .int .i64 x.pt, .int .i64 x.ak, .int .i64 x.av] 90 (0, 0)
theorem clO_cells {W : World} {k : Nat} {x : Cl} (h : W.heap[k]? = some (clO x)) : W.cell? ⟨k, 0, none⟩ = some (.int .i64 x.th) ∧ W.cell? ⟨k, 1, none⟩ = some (.int .i64 x.op) ∧ W.cell? ⟨k, 2, none⟩ = some (.int .i64 x.arg) ∧ W.cell? ⟨k, 3, none⟩ = some (.int .i64 x.data) ∧ W.cell? ⟨k, 4, none⟩ = some (.int .i64 x.beg) ∧ W.cell? ⟨k, 5, none⟩ = some (.int .i64 x.fin) ∧ W.cell? ⟨k, 6, none⟩ = some (.int .i64 x.pt) ∧ W.cell? ⟨k, 7, none⟩ = some (.int .i64 x.ak) ∧ W.cell? ⟨k, 8, none⟩ = some (.int .i64 x.av) := by
  unfold clO at h
  simp [World.cell?, h]
end Go.Proofs.YtkimmfdicohoiaaGreat.Ar
