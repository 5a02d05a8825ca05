import Derived.Test.YtnapnhmmopajfaaGreatJ09
/-
  Machine.begin by its contract, whatever the kit's maker makes.
-/
namespace Go.Proofs.YtnapnhmmopajfaaGreat.Ma
open Go.RowKit Mr Me
section
variable {W : World} {U S : Nat → Prop} {q : Ph} {s : Ss} {X : Nat → Obj → Prop} {vl va : Value}
set_option maxRecDepth 100000 in
set_option maxHeartbeats 1000000 in
theorem machBegin_any (h : Mch W U S q vl va s X) (hr : s.cls.length ≤ 100000) (i : Nat) (t : Th) (ht : s.ths[i]? = some t) (op arg data now : Int) (ty : TypeId) (x : Value) (km : Nat) (hvk : q.vk = .map (some km)) {Z : (Nat → Obj → Prop) → World → Prop}
    (KB : Calls Tryz.prog 38 #[q.vk, .agg #[.int .i64 (i : Int), .int .i64 op, .int .i64 arg, .int .i64 data]] (W.alloc (mvO i op arg data)).drew fun e w' => e = .returned (.iface ty x) ∧ Below (W.heap.size + 1) (W.alloc (mvO i op arg data)).drew w' ∧ ∃ N, (∀ k o, N k o → W.heap.size ≤ k ∧ w'.heap[k]? = some o) ∧ Z N w') :
    Calls Tryz.prog 24 #[.pointer (some ⟨q.b, 0, none⟩), .agg #[.int .i64 (i : Int), .int .i64 op, .int .i64 arg, .int .i64 data], .int .i64 now] W fun e w' => e = .returned (.bool true) ∧
      ∃ vc' N w2, Goes W U { q with vc := vc' } { s with cls := s.cls ++ [⟨i, op, arg, data, now, -1, -1, 0, 0⟩], ths := s.ths.set i ⟨.iface ty x, true, (s.cls.length : Int), 0, 0⟩ } (fun k o => X k o ∨ N k o) w' ∧ Z N w2 := by
  obtain ⟨hx, hm⟩ := h
  have hil : i < s.ths.length := (List.getElem?_eq_some_iff.1 ht).1
  have hnt : s.ths.length = q.nt := by
    obtain ⟨a', c', e, _⟩ := hm.thr.form
    injection e with e1 e2 e3
    exact e2.symm
  have hiq : i < q.nt := by omega
  have hiq' : (i : Int) < (q.nt : Int) := by omega
  have hlt := hm.lt
  have m0 : ∀ o, (W.alloc o).cell? ⟨q.b, 0, none⟩ = some q.vk := fun o => by rw [World.cell?_alloc_past _ _ _ hlt]; exact hm.m0
  have y : ∀ j u, #[Value.int .i64 (i : Int), .int .i64 op, .int .i64 arg, .int .i64 data].toList[j]? = some u → (W.alloc (mvO i op arg data)).cell? ((⟨W.heap.size, 0, none⟩ : Addr).add j) = some u := newsAt W _ #[.int .i64 (i : Int), .int .i64 op, .int .i64 arg, .int .i64 data] 27 _ rfl rfl
  have y0 : (W.alloc (mvO i op arg data)).cell? ⟨W.heap.size, 0, none⟩ = some (.int .i64 (i : Int)) := y 0 _ rfl
  have y1 : (W.alloc (mvO i op arg data)).cell? ⟨W.heap.size, 1, none⟩ = some (.int .i64 op) := y 1 _ rfl
  have y2 : (W.alloc (mvO i op arg data)).cell? ⟨W.heap.size, 2, none⟩ = some (.int .i64 arg) := y 2 _ rfl
  have y3 : (W.alloc (mvO i op arg data)).cell? ⟨W.heap.size, 3, none⟩ = some (.int .i64 data) := y 3 _ rfl
  have m0' := m0 (mvO i op arg data)
  have B1 : Below W.heap.size W (W.alloc (mvO i op arg data)).drew := (Below.drew ((Below.refl _ _).alloc (Nat.le_refl _) (mvO i op arg data)))
  clear y m0
  have cellW := fun (w2 : World) (hB : Below (W.heap.size + 1) (W.alloc (mvO i op arg data)).drew w2) => (show w2.cell? ⟨W.heap.size, 0, none⟩ = some (.int .i64 (i : Int)) ∧ w2.cell? ⟨W.heap.size, 1, none⟩ = some (.int .i64 op) ∧ w2.cell? ⟨W.heap.size, 2, none⟩ = some (.int .i64 arg) ∧ w2.cell? ⟨W.heap.size, 3, none⟩ = some (.int .i64 data) ∧ Below W.heap.size W w2 from by
    exact ⟨(hB.cell (p := ⟨W.heap.size, 0, none⟩) (by simp)).trans y0, (hB.cell (p := ⟨W.heap.size, 1, none⟩) (by simp)).trans y1, (hB.cell (p := ⟨W.heap.size, 2, none⟩) (by simp)).trans y2, (hB.cell (p := ⟨W.heap.size, 3, none⟩) (by simp)).trans y3, B1.trans (hB.mono (by omega))⟩)
  have ndb : W.heap.size ≠ q.b := by omega
  have ngb : q.gt ≠ q.b := fun e => not_row hm.blk hm.thr (by decide) (by rw [← e]; rfl)
  have ngB : q.gt ≠ W.heap.size := by have := (hm.thr.lt q.gt rfl).2; omega
  have BB := fun (w2 : World) (hB : Below W.heap.size W w2) => bookBegin_any (hm.below hB) hr i op arg data now
  have cellM := fun (w2 : World) (hB : Below W.heap.size W w2) => (show w2.cell? ⟨q.b, 0, none⟩ = some (.map (some km)) ∧ w2.cell? ⟨q.b, 1, none⟩ = some (.slice (some ⟨q.gt, 0, none⟩) q.nt q.ct) ∧ w2.cell? ⟨q.b, 3, none⟩ = some (.pointer (some ⟨q.bb, 0, none⟩)) from
    ⟨by rw [← hvk]; exact (hm.below hB).m0, (hm.below hB).m1, (hm.below hB).m3⟩)
  have cell3 := fun (w2 w3 : World) (hB : Below (W.heap.size + 1) (W.alloc (mvO i op arg data)).drew w2) (hf : Fr w2 w3 (fun k => k = q.bb ∨ q.vc.ownBlock = some k)) => (show w3.cell? ⟨W.heap.size, 0, none⟩ = some (.int .i64 (i : Int)) ∧ w3.cell? ⟨W.heap.size, 1, none⟩ = some (.int .i64 op) ∧ w3.cell? ⟨W.heap.size, 2, none⟩ = some (.int .i64 arg) ∧ w3.cell? ⟨W.heap.size, 3, none⟩ = some (.int .i64 data) from by
    obtain ⟨z0, z1, z2, z3, z4⟩ := cellW w2 hB
    have hsz := hB.size
    have hb := hf.block W.heap.size (by simp at hsz; omega) (fun hu => by
      rcases hu with hu | hu
      · have := hm.ltb; omega
      · have := (hm.cal.lt _ hu).2; omega)
    exact ⟨(World.cell?_of_block hb).trans z0, (World.cell?_of_block hb).trans z1, (World.cell?_of_block hb).trans z2, (World.cell?_of_block hb).trans z3⟩)
  rw [hvk] at m0' KB
  have n0 : (W.alloc (.cells #[.int .i64 (i : Int), .int .i64 op, .int .i64 arg, .int .i64 data] 27)).cell? ⟨q.b, 0, none⟩ = some (.map (some km)) := m0'
  have hul := hm.ul
  have hsu := hm.su
  replace hm := Mr.hid hm
  replace hx := Mr.hid hx
  replace hnt := Mr.hid hnt
  clear hvk
  go_enter Tryz.func24, Tryz.ntmps24
  go_wp2
  go_region_held3 (fun w' => w'.cell? ⟨q.b, 0, none⟩ = some (.map (some km)) ∧ w'.cell? ⟨W.heap.size, 0, none⟩ = some (.int .i64 (i : Int)) ∧ w'.cell? ⟨W.heap.size, 1, none⟩ = some (.int .i64 op) ∧ w'.cell? ⟨W.heap.size, 2, none⟩ = some (.int .i64 arg) ∧ w'.cell? ⟨W.heap.size, 3, none⟩ = some (.int .i64 data)) (go_keep)
    (first | (go_at_call 38; refine KB.mono ?_; clear KB; rintro e w2 ⟨rfl, hB2, N, ho2, hz2⟩; replace hz2 := Mr.hid hz2; replace ho2 := Mr.hid ho2; obtain ⟨z0, z1, z2, z3, z4⟩ := cellW w2 hB2; obtain ⟨c0, c1, c3⟩ := cellM w2 z4))
  have BB2 := BB w2.drew z4.drew
  have cell4 := fun (w3 : World) (hf : Fr w2 w3 (fun k => k = q.bb ∨ q.vc.ownBlock = some k)) => cell3 w2 w3 hB2 hf
  clear BB cell3 cellW cellM y0 y1 y2 y3 m0' n0
  go_wp2
  go_region_held3 (fun w' => w'.cell? ⟨q.b, 1, none⟩ = some (.slice (some ⟨q.gt, 0, none⟩) q.nt q.ct) ∧ w'.cell? ⟨q.b, 3, none⟩ = some (.pointer (some ⟨q.bb, 0, none⟩)) ∧ w'.cell? ⟨W.heap.size, 0, none⟩ = some (.int .i64 (i : Int)) ∧ w'.cell? ⟨W.heap.size, 1, none⟩ = some (.int .i64 op) ∧ w'.cell? ⟨W.heap.size, 2, none⟩ = some (.int .i64 arg) ∧ w'.cell? ⟨W.heap.size, 3, none⟩ = some (.int .i64 data)) (go_keep)
    (first | (go_at_call 39; refine BB2.mono ?_; clear BB2; rintro e w3 ⟨rfl, vc', hm3, hf3, hvc'⟩; have g1 := hm3.m1; have g3 := hm3.m3; have hf3' : Fr w2 w3 (fun k => k = q.bb ∨ q.vc.ownBlock = some k) := ((Fr.refl w2 _).drew.trans (hf3.mono (fun _ => .inl))); obtain ⟨v0, v1, v2, v3⟩ := cell4 w3 hf3'; clear cell4; have a0 : w3.cell? ⟨q.gt, i * 5, none⟩ = some t.tv := hm3.atTh rfl i 0 t _ ht rfl; have a1 := hm3.atTh rfl i 1 t _ ht rfl; have a2 := hm3.atTh rfl i 2 t _ ht rfl; have a3 := hm3.atTh rfl i 3 t _ ht rfl; have a4 := hm3.atTh rfl i 4 t _ ht rfl; have az := (fun j => hm3.thr.frozen (g := q.gt) rfl j); replace hm3 := Mr.hid hm3; replace hf3 := Mr.hid hf3; replace hvc' := Mr.hid hvc'))
  have fin : ∃ vc' N w2, Goes W U { q with vc := vc' } { s with cls := s.cls ++ [⟨i, op, arg, data, now, -1, -1, 0, 0⟩], ths := s.ths.set i ⟨.iface ty x, true, (s.cls.length : Int), 0, 0⟩ } (fun k o => X k o ∨ N k o) (((((w3.setCell ⟨q.gt, i * 5, none⟩ (.iface ty x)).setCell ⟨q.gt, i * 5 + 1, none⟩ (.bool true)).setCell ⟨q.gt, i * 5 + 2, none⟩ (.int .i64 (s.cls.length : Int))).setCell ⟨q.gt, i * 5 + 3, none⟩ (.int .i64 0)).setCell ⟨q.gt, i * 5 + 4, none⟩ (.int .i64 0)) ∧ Z N w2 := by
    have q4 := hm3.out.wipeTh rfl i t ⟨.iface ty x, true, (s.cls.length : Int), 0, 0⟩ ht
    have f4 : Fr w2 (((((w3.setCell ⟨q.gt, i * 5, none⟩ (.iface ty x)).setCell ⟨q.gt, i * 5 + 1, none⟩ (.bool true)).setCell ⟨q.gt, i * 5 + 2, none⟩ (.int .i64 (s.cls.length : Int))).setCell ⟨q.gt, i * 5 + 3, none⟩ (.int .i64 0)).setCell ⟨q.gt, i * 5 + 4, none⟩ (.int .i64 0)) (fun k => (k = q.bb ∨ q.vc.ownBlock = some k) ∨ k = q.gt) := ((((((hf3'.mono (fun _ h => .inl h)).setCell _ _ (.inl (.inr rfl))).setCell _ _ (.inl (.inr rfl))).setCell _ _ (.inl (.inr rfl))).setCell _ _ (.inl (.inr rfl))).setCell _ _ (.inl (.inr rfl)))
    generalize ((((w3.setCell ⟨q.gt, i * 5, none⟩ (.iface ty x)).setCell ⟨q.gt, i * 5 + 1, none⟩ (.bool true)).setCell ⟨q.gt, i * 5 + 2, none⟩ (.int .i64 (s.cls.length : Int))).setCell ⟨q.gt, i * 5 + 3, none⟩ (.int .i64 0)).setCell ⟨q.gt, i * 5 + 4, none⟩ (.int .i64 0) = w5 at *
    have hs2 := z4.size
    have hs4 := f4.size
    have hgt0 := hm.out.thr.lt q.gt rfl
    have hsm : ∀ k, (k = q.bb ∨ q.vc.ownBlock = some k) ∨ k = q.gt → U k ∧ k < W.heap.size := fun k hk => by
      rcases hk with (hk | hk) | hk
      · rw [hk]; exact ⟨hm.out.ubb.1, hm.out.ltb⟩
      · exact ⟨(hm.out.cal.lt k hk).1.1, (hm.out.cal.lt k hk).2⟩
      · rw [hk]; exact ⟨hgt0.1.1, hgt0.2⟩
    have q5 := q4.own (U' := fun k => (U k ∨ W.heap.size ≤ k) ∧ k < w5.heap.size) (fun k hk => ⟨hk.1.elim .inl (fun h => .inr (by have h' : w2.heap.size ≤ k := h; omega)), q4.ul k hk⟩) (fun k hk => hk.2)
    refine ⟨vc', N, w2, ⟨_, S, vl, va, ⟨?_, q5⟩, fun k hk => ⟨.inl hk, by have := hul k hk; omega⟩, fun k hk => hk.1, ?_⟩, hz2.out⟩
    · intro k o hk
      rcases hk with hk | hk
      · obtain ⟨x1, x2, x3, x4, x5, x6, x7, x8⟩ := hx.out k o hk
        have hkl := hul k x2
        refine ⟨((f4.block k (by omega) (fun e => ?_)).trans (z4.block k hkl)).trans x1, ⟨.inl x2, by omega⟩, x3, x4, x5, x6, fun e => ?_, x8⟩
        · rcases e with (e | e) | e
          · exact x5 e
          · exact x7 e
          · exact x6 e
        · rcases hvc'.out k e with e | e
          · exact x7 e
          · have e' : w2.heap.size ≤ k := e
            omega
      · obtain ⟨hbt, ho2⟩ := ho2.out k o hk
        have hb2 : k < w2.heap.size := (Array.getElem?_eq_some_iff.1 ho2).1
        have hk5 : w5.heap[k]? = some o := (f4.block k hb2 (fun e => by have := (hsm k e).2; omega)).trans ho2
        refine ⟨hk5, ⟨.inr hbt, by omega⟩, fun hS => by have := hul k (hsu k hS); omega, fun e => ?_, fun e => ?_, fun e => ?_, fun e => ?_, fun e => ?_⟩
        · have := hm.out.lt
          have e' : k = q.b := e
          omega
        · have := hm.out.ltb
          have e' : k = q.bb := e
          omega
        · have e' : k = q.gt := e
          omega
        · rcases hvc'.out k e with e | e
          · have := (hm.out.cal.lt k e).2
            omega
          · have e' : w2.heap.size ≤ k := e
            omega
        · have := (hm.out.shf.lt k e).2
          omega
    · exact ((Fr.of_below z4).trans (f4.mono (fun k hk => .inl (hsm k hk).1)))
  replace fin := Mr.hid fin
  go_wp2
  go_ret
  exact ⟨rfl, fin.out⟩
end
end Go.Proofs.YtnapnhmmopajfaaGreat.Ma
/-
  made, has, Busy, a step of an idle thread, a call that is refused, by their contracts.
-/
namespace Go.Proofs.YtnapnhmmopajfaaGreat.Ma
open Go.RowKit Mr Me
section
variable {W : World} {U S : Nat → Prop} {q : Ph} {s : Ss} {X : Nat → Obj → Prop} {vl va : Value}
theorem Mch.nt (h : Mch W U S q vl va s X) : s.ths.length = q.nt := by
  obtain ⟨a', c', e, _⟩ := h.2.thr.form
  injection e with e1 e2 e3
  exact e2.symm
theorem Mch.below {W' : World} (h : Mch W U S q vl va s X) (hB : Below W.heap.size W W') : Mch W' U S q vl va s X :=
  ⟨Xs.kept h.1 (fun k hU _ _ _ => hB.block k (h.2.ul k hU)) (fun _ h => h) (fun _ _ h => h), h.2.below hB⟩
theorem made_yes (h : Mch W U S q vl va s X) : Calls Tryz.prog 21 #[.pointer (some ⟨q.b, 0, none⟩)] W fun e w' => e = .returned (.bool true) ∧ w' = W := by
  have m3 := h.2.m3
  clear h
  go_enter Tryz.func21, Tryz.ntmps21
  go_wp2
  go_ret
  exact ⟨rfl, rfl⟩
theorem hasT_yes (h : Mch W U S q vl va s X) (i : Nat) (hi : i < q.nt) : Calls Tryz.prog 22 #[.pointer (some ⟨q.b, 0, none⟩), .int .i64 (i : Int)] W fun e w' => e = .returned (.bool true) ∧ w' = W := by
  have m1 := h.2.m1
  have C := made_yes h
  have hi' : (i : Int) < (q.nt : Int) := by omega
  clear h
  go_enter Tryz.func22, Tryz.ntmps22
  go_wp2_with (go_at_call 21; refine C.mono ?_; clear C; rintro e w' ⟨rfl, hw⟩; obtain rfl := hw.symm)
  go_ret
  exact ⟨rfl, rfl⟩
theorem hasT_no (h : Mch W U S q vl va s X) (x : Int) (hx : x < 0 ∨ (q.nt : Int) ≤ x) : Calls Tryz.prog 22 #[.pointer (some ⟨q.b, 0, none⟩), .int .i64 x] W fun e w' => e = .returned (.bool false) ∧ w' = W := by
  have m1 := h.2.m1
  have C := made_yes h
  clear h
  by_cases h0 : x < 0
  · have d0 : decide (0 ≤ x) = false := by simp; omega
    clear hx
    go_enter Tryz.func22, Tryz.ntmps22
    go_wp2_with (go_at_call 21; refine C.mono ?_; clear C; rintro e w' ⟨rfl, hw⟩; obtain rfl := hw.symm)
    go_ret
    exact ⟨rfl, rfl⟩
  · have d0 : decide (0 ≤ x) = true := by simp; omega
    have d1 : decide (x < (q.nt : Int)) = false := by simp; omega
    clear hx
    go_enter Tryz.func22, Tryz.ntmps22
    go_wp2_with (go_at_call 21; refine C.mono ?_; clear C; rintro e w' ⟨rfl, hw⟩; obtain rfl := hw.symm)
    go_ret
    exact ⟨rfl, rfl⟩
set_option maxRecDepth 100000 in
theorem busy_yes (h : Mch W U S q vl va s X) (i : Nat) (t : Th) (ht : s.ths[i]? = some t) (ty : TypeId) (v : Value) (htv : t.tv = .iface ty v) : Calls Tryz.prog 13 #[.pointer (some ⟨q.b, 0, none⟩), .int .i64 (i : Int)] W fun e w' => e = .returned (.bool true) ∧ w' = W := by
  have hi : i < q.nt := by rw [← h.nt]; exact (List.getElem?_eq_some_iff.1 ht).1
  have hi' : (i : Int) < (q.nt : Int) := by omega
  have C := hasT_yes h i hi
  have m1 := h.2.m1
  have a0 : W.cell? ⟨q.gt, i * 5, none⟩ = some (.iface ty v) := by rw [← htv]; exact h.2.atTh rfl i 0 t _ ht rfl
  clear h
  go_enter Tryz.func13, Tryz.ntmps13
  go_wp2_with (go_at_call 22; refine C.mono ?_; clear C; rintro e w' ⟨rfl, hw⟩; obtain rfl := hw.symm)
  go_ret
  exact ⟨rfl, rfl⟩
set_option maxRecDepth 100000 in
theorem busy_no (h : Mch W U S q vl va s X) (i : Nat) (t : Th) (ht : s.ths[i]? = some t) (htv : t.tv = .nilIface) : Calls Tryz.prog 13 #[.pointer (some ⟨q.b, 0, none⟩), .int .i64 (i : Int)] W fun e w' => e = .returned (.bool false) ∧ w' = W := by
  have hi : i < q.nt := by rw [← h.nt]; exact (List.getElem?_eq_some_iff.1 ht).1
  have hi' : (i : Int) < (q.nt : Int) := by omega
  have C := hasT_yes h i hi
  have m1 := h.2.m1
  have a0 : W.cell? ⟨q.gt, i * 5, none⟩ = some .nilIface := by rw [← htv]; exact h.2.atTh rfl i 0 t _ ht rfl
  clear h
  go_enter Tryz.func13, Tryz.ntmps13
  go_wp2_with (go_at_call 22; refine C.mono ?_; clear C; rintro e w' ⟨rfl, hw⟩; obtain rfl := hw.symm)
  go_ret
  exact ⟨rfl, rfl⟩
set_option maxRecDepth 100000 in
theorem step_idle (h : Mch W U S q vl va s X) (i : Nat) (t : Th) (ht : s.ths[i]? = some t) (htv : t.tv = .nilIface) (now : Int) : Calls Tryz.prog 23 #[.pointer (some ⟨q.b, 0, none⟩), .int .i64 (i : Int), .int .i64 now] W fun e w' => e = .returned (.bool false) ∧ w' = W := by
  have hi : i < q.nt := by rw [← h.nt]; exact (List.getElem?_eq_some_iff.1 ht).1
  have hi' : (i : Int) < (q.nt : Int) := by omega
  have m1 := h.2.m1
  have a0 : W.cell? ⟨q.gt, i * 5, none⟩ = some .nilIface := by rw [← htv]; exact h.2.atTh rfl i 0 t _ ht rfl
  clear h
  go_enter Tryz.func23, Tryz.ntmps23
  go_wp2
  go_ret
  exact ⟨rfl, rfl⟩
set_option maxRecDepth 100000 in
set_option maxHeartbeats 1000000 in
theorem machBegin_none (h : Mch W U S q vl va s X) (th op arg data now : Int) (km : Nat) (hvk : q.vk = .map (some km))
    (KB : Calls Tryz.prog 38 #[q.vk, .agg #[.int .i64 th, .int .i64 op, .int .i64 arg, .int .i64 data]] (W.alloc (mvO th op arg data)).drew fun e w' => e = .returned .nilIface ∧ Below (W.heap.size + 1) (W.alloc (mvO th op arg data)).drew w') :
    Calls Tryz.prog 24 #[.pointer (some ⟨q.b, 0, none⟩), .agg #[.int .i64 th, .int .i64 op, .int .i64 arg, .int .i64 data], .int .i64 now] W fun e w' => e = .returned (.bool false) ∧ Below W.heap.size W w' := by
  have hlt := h.2.lt
  have B1 : Below W.heap.size W (W.alloc (mvO th op arg data)).drew := (Below.drew ((Below.refl _ _).alloc (Nat.le_refl _) (mvO th op arg data)))
  have y : ∀ j u, #[Value.int .i64 th, .int .i64 op, .int .i64 arg, .int .i64 data].toList[j]? = some u → (W.alloc (mvO th op arg data)).cell? ((⟨W.heap.size, 0, none⟩ : Addr).add j) = some u := newsAt W _ #[.int .i64 th, .int .i64 op, .int .i64 arg, .int .i64 data] 27 _ rfl rfl
  have y0 : (W.alloc (mvO th op arg data)).cell? ⟨W.heap.size, 0, none⟩ = some (.int .i64 th) := y 0 _ rfl
  have y1 : (W.alloc (mvO th op arg data)).cell? ⟨W.heap.size, 1, none⟩ = some (.int .i64 op) := y 1 _ rfl
  have y2 : (W.alloc (mvO th op arg data)).cell? ⟨W.heap.size, 2, none⟩ = some (.int .i64 arg) := y 2 _ rfl
  have y3 : (W.alloc (mvO th op arg data)).cell? ⟨W.heap.size, 3, none⟩ = some (.int .i64 data) := y 3 _ rfl
  have n0 : (W.alloc (.cells #[.int .i64 th, .int .i64 op, .int .i64 arg, .int .i64 data] 27)).cell? ⟨q.b, 0, none⟩ = some (.map (some km)) := by rw [World.cell?_alloc_past _ _ _ hlt, ← hvk]; exact h.2.m0
  have cellW := fun (w2 : World) (hB : Below (W.heap.size + 1) (W.alloc (mvO th op arg data)).drew w2) => (show w2.cell? ⟨W.heap.size, 0, none⟩ = some (.int .i64 th) ∧ w2.cell? ⟨W.heap.size, 1, none⟩ = some (.int .i64 op) ∧ w2.cell? ⟨W.heap.size, 2, none⟩ = some (.int .i64 arg) ∧ w2.cell? ⟨W.heap.size, 3, none⟩ = some (.int .i64 data) ∧ w2.cell? ⟨q.b, 0, none⟩ = some (.map (some km)) ∧ Below W.heap.size W w2 from
    ⟨(hB.cell (p := ⟨W.heap.size, 0, none⟩) (by simp)).trans y0, (hB.cell (p := ⟨W.heap.size, 1, none⟩) (by simp)).trans y1, (hB.cell (p := ⟨W.heap.size, 2, none⟩) (by simp)).trans y2, (hB.cell (p := ⟨W.heap.size, 3, none⟩) (by simp)).trans y3, (hB.cell (p := ⟨q.b, 0, none⟩) (by simp; omega)).trans n0, B1.trans (hB.mono (by omega))⟩)
  rw [hvk] at KB
  replace h := Mr.hid h
  clear hvk y
  go_enter Tryz.func24, Tryz.ntmps24
  go_wp2
  go_region_held3 (fun w' => w'.cell? ⟨q.b, 0, none⟩ = some (.map (some km)) ∧ w'.cell? ⟨W.heap.size, 0, none⟩ = some (.int .i64 th) ∧ w'.cell? ⟨W.heap.size, 1, none⟩ = some (.int .i64 op) ∧ w'.cell? ⟨W.heap.size, 2, none⟩ = some (.int .i64 arg) ∧ w'.cell? ⟨W.heap.size, 3, none⟩ = some (.int .i64 data)) (go_keep)
    (first | (go_at_call 38; refine KB.mono ?_; clear KB; rintro e w2 ⟨rfl, hB2⟩; obtain ⟨z0, z1, z2, z3, zb, z4⟩ := cellW w2 hB2))
  go_wp2
  go_ret
  exact ⟨rfl, z4⟩
end
end Go.Proofs.YtnapnhmmopajfaaGreat.Ma
