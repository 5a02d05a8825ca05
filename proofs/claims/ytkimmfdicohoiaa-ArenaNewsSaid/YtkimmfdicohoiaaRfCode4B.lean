import Derived.Test.YtkimmfdicohoiaaRfCode4
/-
  THE DOCUMENT's ARENA: its code, put together; its entries.
-/
namespace Go.Proofs.Ytkimmfdicohoiaa.Rf
open Go.RowKit Mr Me Ma
set_option linter.unusedVariables false
theorem has_news {w : World} {S : Nat → Prop} {e : TypeId} {sz g n c : Nat} {xs : List Value} (h : Has w S e sz (.slice (some ⟨g, 0, none⟩) n c) n xs) : ∀ j u, xs[j]? = some u → w.cell? ((⟨g, 0, none⟩ : Addr).add j) = some u := fun j u hu => by
  have hadd : (⟨g, 0, none⟩ : Addr).add j = ⟨g, j, none⟩ := by unfold Addr.add; split <;> simp_all
  rw [hadd]; exact h.cells (g := g) rfl j u hu
theorem ins_one (l : List Ins) : ∀ u ∈ l.flatMap Ins.cells, u.oneCell' = true := by
  intro u hu
  obtain ⟨x, _, hx⟩ := List.mem_flatMap.1 hu
  simp only [Ins.cells, List.mem_cons, List.not_mem_nil, or_false] at hx
  rcases hx with rfl | rfl | rfl | rfl | rfl | rfl <;> rfl
theorem IsCode.more {W w w3 : World} {v : Value} {l1 l2 : List Ins} {g cap' n : Nat} (h : IsCode W w v l1) (hn : (l1 ++ l2).length = n) (hown : Has w3 (fun k => W.heap.size ≤ k) 74 6 (.slice (some ⟨g, 0, none⟩) n cap') n (l1.flatMap Ins.cells ++ l2.flatMap Ins.cells)) (hgrow : w.grownBy w3 v.ownBlock) : IsCode W w3 (.slice (some ⟨g, 0, none⟩) n cap') (l1 ++ l2) := by
  refine ⟨h.1.grown hgrow h.1.size (fun k hk => (h.2.lt k hk).1), ?_⟩
  rw [hn, List.flatMap_append]
  exact hown
theorem IsCode.below {W w w2 : World} {v : Value} {l : List Ins} (h : IsCode W w v l) (hB : Below w.heap.size w w2) : IsCode W w2 v l := ⟨h.1.trans (hB.mono h.1.size), h.2.below hB⟩
set_option maxRecDepth 100000 in
set_option maxHeartbeats 4000000 in
theorem giving_any (W : World) : Calls Try.prog 28 #[] W fun e w' => ∃ g c, e = .returned (.slice (some ⟨g, 0, none⟩) 13 c) ∧ IsCode W w' (.slice (some ⟨g, 0, none⟩) 13 c) givingL := by
  obtain ⟨i0, hi, hz0, hz1, hz2⟩ := info_parts info_ins
  have I1 := new_code W [⟨10, 11, 0, 0, 0, 0⟩, ⟨32, 34, 0, 0, 0, 17⟩, ⟨30, 34, 0, 0, 1, 0⟩, ⟨13, 0, 0, 0, 0, 0⟩] 4 rfl (by decide) _ rfl
  replace I1 := Mr.hid I1
  go_enter Try.func28, Try.ntmps28
  go_wp2_with (first
    | (go_at_call 37; refine (link_any _ _).mono ?_; rintro e w2 ⟨g2, rfl, I2⟩; replace I2 := Mr.hid I2)
    | (at_builtin; refine wpList_append_has _ rfl (.tmp 7) (.tmp 8) 47 rfl (fun k => W.heap.size ≤ k) 74 i0 _ 6 48 Try.underlying47 hi hz0 hz1 hz2 rfl (.slice (some ⟨W.heap.size, 0, none⟩) 4 4) 4 _ rfl (I1.out.below I2.out.1).2 ⟨g2, 0, none⟩ 8 8 ((linkL 17).flatMap Ins.cells) rfl rfl (has_news I2.out.2) (ins_one _) (by omega) (by decide) (by decide) (by have := (I1.out.below I2.out.1).1.size; omega) ?_; intro g3 cap3 w3 hown hgrow hat; have I3 := Mr.hid ((I1.out.below I2.out.1).more (n := 12) (l2 := linkL 17) rfl hown hgrow); clear hown hgrow hat)
    | (at_builtin; refine wpList_append_has _ rfl (.tmp 10) (.tmp 12) 47 rfl (fun k => W.heap.size ≤ k) 74 i0 _ 6 48 Try.underlying47 hi hz0 hz1 hz2 rfl (.slice (some ⟨g3, 0, none⟩) 12 cap3) 12 _ rfl (I3.out.below ((Below.refl _ _).alloc (Nat.le_refl _) _)).2 ⟨w3.heap.size, 0, none⟩ 1 1 (([⟨13, 0, 0, 0, 0, 0⟩]).flatMap Ins.cells) rfl rfl (newsAt w3 _ ((([⟨13, 0, 0, 0, 0, 0⟩] : List Ins).flatMap Ins.cells).toArray) 74 _ rfl rfl) (ins_one _) (by omega) (by decide) (by decide) (by have := I3.out.1.size; simp; omega) ?_; intro g4 cap4 w4 hown hgrow hat; have I4 := Mr.hid ((I3.out.below ((Below.refl _ _).alloc (Nat.le_refl _) _)).more (n := 13) (l2 := [⟨13, 0, 0, 0, 0, 0⟩]) rfl hown hgrow); clear hown hgrow hat))
  go_ret
  exact ⟨_, _, rfl, I4.out⟩
set_option maxRecDepth 100000 in
set_option maxHeartbeats 4000000 in
theorem flushing_any (W : World) : Calls Try.prog 29 #[] W fun e w' => ∃ g c, e = .returned (.slice (some ⟨g, 0, none⟩) 14 c) ∧ IsCode W w' (.slice (some ⟨g, 0, none⟩) 14 c) flushingL := by
  obtain ⟨i0, hi, hz0, hz1, hz2⟩ := info_parts info_ins
  have I1 := new_code W [⟨10, 12, 0, 0, 0, 0⟩, ⟨33, 34, 0, 0, 0, 19⟩] 2 rfl (by decide) _ rfl
  replace I1 := Mr.hid I1
  go_enter Try.func29, Try.ntmps29
  go_wp2_with (first
    | (go_at_call 37; refine (link_any _ _).mono ?_; rintro e w2 ⟨g2, rfl, I2⟩; replace I2 := Mr.hid I2)
    | (at_builtin; refine wpList_append_has _ rfl (.tmp 5) (.tmp 6) 47 rfl (fun k => W.heap.size ≤ k) 74 i0 _ 6 48 Try.underlying47 hi hz0 hz1 hz2 rfl (.slice (some ⟨W.heap.size, 0, none⟩) 2 2) 2 _ rfl (I1.out.below I2.out.1).2 ⟨g2, 0, none⟩ 8 8 ((linkL 18).flatMap Ins.cells) rfl rfl (has_news I2.out.2) (ins_one _) (by omega) (by decide) (by decide) (by have := (I1.out.below I2.out.1).1.size; omega) ?_; intro g3 cap3 w3 hown hgrow hat; have I3 := Mr.hid ((I1.out.below I2.out.1).more (n := 10) (l2 := linkL 18) rfl hown hgrow); clear hown hgrow hat)
    | (at_builtin; refine wpList_append_has _ rfl (.tmp 8) (.tmp 13) 47 rfl (fun k => W.heap.size ≤ k) 74 i0 _ 6 48 Try.underlying47 hi hz0 hz1 hz2 rfl (.slice (some ⟨g3, 0, none⟩) 10 cap3) 10 _ rfl (I3.out.below ((Below.refl _ _).alloc (Nat.le_refl _) _)).2 ⟨w3.heap.size, 0, none⟩ 4 4 (([⟨34, 0, 0, 0, 0, 0⟩, ⟨11, 0, 0, 0, 0, 12⟩, ⟨10, 19, 0, 0, 0, 0⟩, ⟨13, 0, 0, 0, 0, 0⟩]).flatMap Ins.cells) rfl rfl (newsAt w3 _ ((([⟨34, 0, 0, 0, 0, 0⟩, ⟨11, 0, 0, 0, 0, 12⟩, ⟨10, 19, 0, 0, 0, 0⟩, ⟨13, 0, 0, 0, 0, 0⟩] : List Ins).flatMap Ins.cells).toArray) 74 _ rfl rfl) (ins_one _) (by omega) (by decide) (by decide) (by have := I3.out.1.size; simp; omega) ?_; intro g4 cap4 w4 hown hgrow hat; have I4 := Mr.hid ((I3.out.below ((Below.refl _ _).alloc (Nat.le_refl _) _)).more (n := 14) (l2 := [⟨34, 0, 0, 0, 0, 0⟩, ⟨11, 0, 0, 0, 0, 12⟩, ⟨10, 19, 0, 0, 0, 0⟩, ⟨13, 0, 0, 0, 0, 0⟩]) rfl hown hgrow); clear hown hgrow hat))
  go_ret
  exact ⟨_, _, rfl, I4.out⟩
set_option maxRecDepth 100000 in
set_option maxHeartbeats 4000000 in
theorem Code_any (W : World) : Calls Try.prog 14 #[] W fun e w' => ∃ g c, e = .returned (.slice (some ⟨g, 0, none⟩) 58 c) ∧ IsCode W w' (.slice (some ⟨g, 0, none⟩) 58 c) code4 := by
  obtain ⟨i0, hi, hz0, hz1, hz2⟩ := info_parts info_ins
  go_enter Try.func14, Try.ntmps14
  go_wp2_with (first
    | (go_at_call 27; refine (taking_any _).mono ?_; rintro e w1 ⟨g1, rfl, I1⟩; replace I1 := Mr.hid I1)
    | (go_at_call 28; refine (giving_any _).mono ?_; rintro e w2 ⟨g2, c2, rfl, I2⟩; replace I2 := Mr.hid I2)
    | (go_at_call 29; refine (flushing_any _).mono ?_; rintro e w4 ⟨g4, c4, rfl, I4⟩; replace I4 := Mr.hid I4)
    | (go_at_call 30; refine (calls_any _).mono ?_; rintro e w6 ⟨g6, rfl, I6⟩; replace I6 := Mr.hid I6)
    | (at_builtin; refine wpList_append_has _ rfl (.tmp 3) (.tmp 4) 47 rfl (fun k => W.heap.size ≤ k) 74 i0 _ 6 48 Try.underlying47 hi hz0 hz1 hz2 rfl (.slice (some ⟨g1, 0, none⟩) 18 18) 18 _ rfl (I1.out.below I2.out.1).2 ⟨g2, 0, none⟩ 13 c2 ((givingL).flatMap Ins.cells) rfl rfl (has_news I2.out.2) (ins_one _) (by omega) (by decide) (by decide) (by have := (I1.out.below I2.out.1).1.size; omega) ?_; intro g3 cap3 w3 hown hgrow hat; have I3 := Mr.hid ((I1.out.below I2.out.1).more (n := 31) (l2 := givingL) rfl hown hgrow); clear hown hgrow hat)
    | (at_builtin; refine wpList_append_has _ rfl (.tmp 6) (.tmp 7) 47 rfl (fun k => W.heap.size ≤ k) 74 i0 _ 6 48 Try.underlying47 hi hz0 hz1 hz2 rfl (.slice (some ⟨g3, 0, none⟩) 31 cap3) 31 _ rfl (I3.out.below I4.out.1).2 ⟨g4, 0, none⟩ 14 c4 ((flushingL).flatMap Ins.cells) rfl rfl (has_news I4.out.2) (ins_one _) (by omega) (by decide) (by decide) (by have := (I3.out.below I4.out.1).1.size; omega) ?_; intro g5 cap5 w5 hown hgrow hat; have I5 := Mr.hid ((I3.out.below I4.out.1).more (n := 45) (l2 := flushingL) rfl hown hgrow); clear hown hgrow hat)
    | (at_builtin; refine wpList_append_has _ rfl (.tmp 9) (.tmp 10) 47 rfl (fun k => W.heap.size ≤ k) 74 i0 _ 6 48 Try.underlying47 hi hz0 hz1 hz2 rfl (.slice (some ⟨g5, 0, none⟩) 45 cap5) 45 _ rfl (I5.out.below I6.out.1).2 ⟨g6, 0, none⟩ 13 13 ((callsL).flatMap Ins.cells) rfl rfl (has_news I6.out.2) (ins_one _) (by omega) (by decide) (by decide) (by have := (I5.out.below I6.out.1).1.size; omega) ?_; intro g7 cap7 w7 hown hgrow hat; have I7 := Mr.hid ((I5.out.below I6.out.1).more (n := 58) (l2 := callsL) rfl hown hgrow); clear hown hgrow hat))
  go_ret
  exact ⟨_, _, rfl, I7.out⟩
set_option maxRecDepth 100000 in
set_option maxHeartbeats 4000000 in
theorem Entries_any (W : World) : Calls Try.prog 15 #[] W fun e w' => ∃ g, e = .returned (.slice (some ⟨g, 0, none⟩) 3 3) ∧ Below W.heap.size W w' ∧ Has w' (fun k => W.heap.size ≤ k) 80 3 (.slice (some ⟨g, 0, none⟩) 3 3) 3 (ens4.flatMap En.cells) := by
  go_enter Try.func15, Try.ntmps15
  go_wp2
  go_ret
  exact ⟨_, rfl, (Below.refl _ _).alloc (Nat.le_refl _) _, rfl, .inr ⟨W.heap.size, 3, (ens4.flatMap En.cells).toArray, rfl, Nat.le_refl _, heap_alloc_new W _, Nat.le_refl _, by decide, by decide, rfl⟩⟩
end Go.Proofs.Ytkimmfdicohoiaa.Rf
