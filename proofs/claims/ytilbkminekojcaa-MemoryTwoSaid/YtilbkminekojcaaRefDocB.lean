/-
  ask by its contract, kind by kind: doc, 9 and 10 (written by genask.py).
-/
import Derived.Test.YtilbkminekojcaaRefDocA
namespace Go.Proofs.Ytilbkminekojcaa.Me
open Go.RowKit Mr
set_option linter.unusedVariables false
section
variable {W : World} {S : Nat → Prop} {b : Nat} {s : St} {mv : Int} {ws0 : List Int}
theorem has_drew {w : World} {S : Nat → Prop} {e size n : Nat} {v : Value} {xs : List Value} (h : Has w S e size v n xs) : Has w.drew S e size v n xs := h.kept (fun _ _ => rfl) (fun k hk => (h.lt k hk).1)
set_option maxRecDepth 100000 in
set_option maxHeartbeats 2000000 in
theorem doc_9 (h : RmS W S b ws0 s mv) (hSlt : ∀ k, S k → k < W.heap.size) (th ad n old x : Int) :
    Calls Try.prog 21 #[.pointer (some ⟨b, 0, none⟩), .agg #[.int .i64 9, .int .i64 th, .int .i64 ad, .int .i64 n, .int .u64 old, .int .u64 x]] W (DocPost W S b ws0 ⟨0, [], s.ws, []⟩ s mv) := by
  have BX := Bx3.made W ⟨9, th, ad, n, old, x⟩
  have hB3 : Below W.heap.size W (((W.alloc (.cells #[.int .i64 9, .int .i64 th, .int .i64 ad, .int .i64 n, .int .u64 old, .int .u64 x] 33)).alloc (.cells #[.int .i64 0, .slice none 0 0, .slice none 0 0, .slice none 0 0] 55)).alloc (.cells #[.int .i64 0, .slice none 0 0, .slice none 0 0, .slice none 0 0] 55)) := (((Below.refl _ _).alloc (Nat.le_refl _) _).alloc (by simp) _).alloc (by simp; omega) _
  simp only at BX
  replace BX := Mr.hid BX
  replace hB3 := Mr.hid hB3
  replace h := Mr.hid h
  replace hSlt := Mr.hid hSlt
  go_enter Try.func21, Try.ntmps21
  go_upto_region 2 with fail
  obtain ⟨W3, hW3⟩ : ∃ W3, ((W.alloc (.cells #[.int .i64 9, .int .i64 th, .int .i64 ad, .int .i64 n, .int .u64 old, .int .u64 x] 33)).alloc (.cells #[.int .i64 0, .slice none 0 0, .slice none 0 0, .slice none 0 0] 55)).alloc (.cells #[.int .i64 0, .slice none 0 0, .slice none 0 0, .slice none 0 0] 55) = W3 := ⟨_, rfl⟩
  have hz : W3.heap.size = W.heap.size + 3 := by rw [← hW3]; simp
  rw [hW3] at BX hB3 ⊢
  clear hW3
  have hlt3 := BX.out.lt
  have h3 := h.out.below hB3.out
  have hlt1 : W.heap.size + 1 < W3.heap.size := by omega
  have hlt0 : W.heap.size < W3.heap.size := by omega
  obtain ⟨x0, x1, x2, x3, xf⟩ := BX.out.x
  obtain ⟨r0, r1, r2, r3, rf⟩ := BX.out.r
  obtain ⟨vf, vn, vt, hr⟩ := id h3
  obtain ⟨an, cn, hvn, hsn⟩ := Src.of_has hr.hn
  obtain ⟨at', ct, hvt, _⟩ := hr.ht.form
  subst hvn
  subst hvt
  have k1 := hr.c1
  have k2 := hr.c2
  have hlen := hr.len
  have hbl := hSlt.out b hr.inb
  have hb1 : b ≠ W.heap.size := by omega
  have hb2 : b ≠ W.heap.size + 1 := by omega
  have hb3 : b ≠ W.heap.size + 1 + 1 := by omega
  have nx := hsn.news
  replace nx := Mr.hid nx
  replace hr := Mr.hid hr
  clear hsn
  obtain ⟨i0, hi, hz0, hz1, hz2⟩ := info_parts info_u64
  have hBd : Below W3.heap.size W3 W3.drew := (Below.refl _ _).drew
  replace hBd := Mr.hid hBd
  replace h3 := Mr.hid h3
  obtain ⟨o0, o1, o2, o3, o4, o5⟩ := BX.out.opc
  simp only at o0 o1 o2 o3 o4 o5
  go_upto_region 30 with fail
  go_region_law (refine step_append_fresh _ rfl (.tmp 148) (.tmp 152) 22 rfl (fun k => W3.heap.size ≤ k) 31 i0 (.int .u64 0) 1 8 Try.underlying22 hi hz0 hz1 hz2 rfl (by simp [Act.eval]) an s.ws.length cn (wrd s.ws) (by simp [Act.eval]) (by simp [wrd_length]) nx.out.1 (nx.out.2) (wrd_one s.ws) (by unfold maxLen; omega) (by omega) (by simp) ?_; intro v w4 hv hg4 hat4; obtain ⟨av, cv, rfl, _⟩ := hv.form; have hB4 : Below W3.heap.size W3 w4 := hBd.out.grown hg4 (by simp) (fun k hk => by cases hk); clear hat4 hg4; have f4 : Fr W3 w4 S := Fr.of_below hB4; have m4 : RmS w4 (fun k => S k ∨ W3.heap.size ≤ k) b ws0 s mv := (h3.out.below hB4).mono (fun _ => .inl); replace hv := Mr.hid hv; clear x0 x1 x2 x3 xf r0 r1 r2 r3 rf; have B4 := BX.out.fr f4 hSlt.out; have hlt := B4.lt; have hlt1 : W.heap.size + 1 < w4.heap.size := (by omega); have hlt0 : W.heap.size < w4.heap.size := (by omega); obtain ⟨x0, x1, x2, x3, xf⟩ := B4.x; obtain ⟨r0, r1, r2, r3, rf⟩ := B4.r; replace B4 := Mr.hid B4; replace m4 := Mr.hid m4; replace f4 := Mr.hid f4; skip)
  all_goals clear o0 o1 o2 o3 o4 o5 k1 k2
  all_goals go_wp2
  all_goals (refine bodyPost_ret (v := .agg #[.int .i64 0, .slice none 0 0, .slice av s.ws.length cv, .slice none 0 0]) (by simp [results, Try.results21, go_sem, *]) rfl ?_; exact ⟨_, rfl, ⟨_, _, _, rfl, Has.nil _ _ _ _, (hv.out.fr (T := fun k => k = W.heap.size + 1 ∨ k = W.heap.size + 1 + 1) (Fr.setCell (Fr.setCell (Fr.setCell (Fr.setCell (Fr.setCell (Fr.refl _ _) _ _ (.inl (.inr rfl))) _ _ (.inl (.inl rfl))) _ _ (.inl (.inl rfl))) _ _ (.inl (.inl rfl))) _ _ (.inl (.inl rfl))) (fun k hk _ he => by omega)).mono (fun k hk => by omega), Has.nil _ _ _ _⟩, doc_fin hSlt.out hB3.out hz m4.out f4.out (Fr.setCell (Fr.setCell (Fr.setCell (Fr.setCell (Fr.setCell (Fr.refl _ _) _ _ (.inl (.inr rfl))) _ _ (.inl (.inl rfl))) _ _ (.inl (.inl rfl))) _ _ (.inl (.inl rfl))) _ _ (.inl (.inl rfl)))⟩)
set_option maxRecDepth 100000 in
set_option maxHeartbeats 2000000 in
theorem doc_10 (h : RmS W S b ws0 s mv) (hSlt : ∀ k, S k → k < W.heap.size) (hsm : s.lg.length ≤ 5026338869641) (th ad n old x : Int) :
    Calls Try.prog 21 #[.pointer (some ⟨b, 0, none⟩), .agg #[.int .i64 10, .int .i64 th, .int .i64 ad, .int .i64 n, .int .u64 old, .int .u64 x]] W (DocPost W S b ws0 ⟨0, [(s.lg.length : Int), (s.ws.length : Int)], [], []⟩ s mv) := by
  have BX := Bx3.made W ⟨10, th, ad, n, old, x⟩
  have hB3 : Below W.heap.size W (((W.alloc (.cells #[.int .i64 10, .int .i64 th, .int .i64 ad, .int .i64 n, .int .u64 old, .int .u64 x] 33)).alloc (.cells #[.int .i64 0, .slice none 0 0, .slice none 0 0, .slice none 0 0] 55)).alloc (.cells #[.int .i64 0, .slice none 0 0, .slice none 0 0, .slice none 0 0] 55)) := (((Below.refl _ _).alloc (Nat.le_refl _) _).alloc (by simp) _).alloc (by simp; omega) _
  simp only at BX
  replace BX := Mr.hid BX
  replace hB3 := Mr.hid hB3
  replace h := Mr.hid h
  replace hSlt := Mr.hid hSlt
  go_enter Try.func21, Try.ntmps21
  go_upto_region 2 with fail
  obtain ⟨W3, hW3⟩ : ∃ W3, ((W.alloc (.cells #[.int .i64 10, .int .i64 th, .int .i64 ad, .int .i64 n, .int .u64 old, .int .u64 x] 33)).alloc (.cells #[.int .i64 0, .slice none 0 0, .slice none 0 0, .slice none 0 0] 55)).alloc (.cells #[.int .i64 0, .slice none 0 0, .slice none 0 0, .slice none 0 0] 55) = W3 := ⟨_, rfl⟩
  have hz : W3.heap.size = W.heap.size + 3 := by rw [← hW3]; simp
  rw [hW3] at BX hB3 ⊢
  clear hW3
  have hlt3 := BX.out.lt
  have h3 := h.out.below hB3.out
  have hlt1 : W.heap.size + 1 < W3.heap.size := by omega
  have hlt0 : W.heap.size < W3.heap.size := by omega
  obtain ⟨x0, x1, x2, x3, xf⟩ := BX.out.x
  obtain ⟨r0, r1, r2, r3, rf⟩ := BX.out.r
  obtain ⟨vf, vn, vt, hr⟩ := id h3
  obtain ⟨an, cn, hvn, hsn⟩ := Src.of_has hr.hn
  obtain ⟨at', ct, hvt, _⟩ := hr.ht.form
  subst hvn
  subst hvt
  have k1 := hr.c1
  have k2 := hr.c2
  have hlen := hr.len
  have hbl := hSlt.out b hr.inb
  have hb1 : b ≠ W.heap.size := by omega
  have hb2 : b ≠ W.heap.size + 1 := by omega
  have hb3 : b ≠ W.heap.size + 1 + 1 := by omega
  have nx := hsn.news
  replace nx := Mr.hid nx
  replace hr := Mr.hid hr
  clear hsn
  replace h3 := Mr.hid h3
  obtain ⟨o0, o1, o2, o3, o4, o5⟩ := BX.out.opc
  simp only at o0 o1 o2 o3 o4 o5
  go_upto_region 32 with fail
  go_region
  all_goals go_wp2
  all_goals (refine bodyPost_ret (v := .agg #[.int .i64 0, .slice (some ⟨W3.heap.size, 0, none⟩) 2 2, .slice none 0 0, .slice none 0 0]) (by simp [results, Try.results21, go_sem, *]) rfl ?_; exact ⟨_, rfl, ⟨_, _, _, rfl, has_drew (has_one' #[.int .i64 (s.lg.length : Int), .int .i64 (s.ws.length : Int)] (by simp) (by show W.heap.size ≤ _; omega) (by simp)), Has.nil _ _ _ _, Has.nil _ _ _ _⟩, doc_fin hSlt.out hB3.out hz (h3.out.mono (fun _ => .inl)) (Fr.refl _ _) (Fr.drew (Fr.alloc (Fr.setCell (Fr.setCell (Fr.setCell (Fr.setCell (Fr.setCell (Fr.refl _ _) _ _ (.inl (.inr rfl))) _ _ (.inl (.inl rfl))) _ _ (.inl (.inl rfl))) _ _ (.inl (.inl rfl))) _ _ (.inl (.inl rfl))) _))⟩)
end
end Go.Proofs.Ytilbkminekojcaa.Me
