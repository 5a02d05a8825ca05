/-
  ask by its contract, kind by kind (written by genask.py).
-/
import Derived.Test.YtilbkminekojcaaRefAsk
namespace Go.Proofs.Ytilbkminekojcaa.Me
open Go.RowKit Mr
set_option linter.unusedVariables false
section
variable {W : World} {S : Nat → Prop} {b : Nat} {s : St} {mv : Int} {ws0 : List Int}
set_option maxRecDepth 100000 in
set_option maxHeartbeats 2000000 in
theorem ask_1 (h : MemS W S b s mv) (hSlt : ∀ k, S k → k < W.heap.size) (th ad n old x : Int) :
    Calls Try.prog 20 #[.pointer (some ⟨b, 0, none⟩), .agg #[.int .i64 1, .int .i64 th, .int .i64 ad, .int .i64 n, .int .u64 old, .int .u64 x]] W (AskPost W S b ⟨0, [], [], []⟩ s n) := by
  have BX := Bx3.made W ⟨1, th, ad, n, old, x⟩
  have hB3 : Below W.heap.size W (((W.alloc (.cells #[.int .i64 1, .int .i64 th, .int .i64 ad, .int .i64 n, .int .u64 old, .int .u64 x] 33)).alloc (.cells #[.int .i64 0, .slice none 0 0, .slice none 0 0, .slice none 0 0] 55)).alloc (.cells #[.int .i64 0, .slice none 0 0, .slice none 0 0, .slice none 0 0] 55)) := (((Below.refl _ _).alloc (Nat.le_refl _) _).alloc (by simp) _).alloc (by simp; omega) _
  simp only at BX
  replace BX := Mr.hid BX
  replace hB3 := Mr.hid hB3
  replace h := Mr.hid h
  replace hSlt := Mr.hid hSlt
  go_enter Try.func20, Try.ntmps20
  go_upto_region 2 with fail
  obtain ⟨W3, hW3⟩ : ∃ W3, ((W.alloc (.cells #[.int .i64 1, .int .i64 th, .int .i64 ad, .int .i64 n, .int .u64 old, .int .u64 x] 33)).alloc (.cells #[.int .i64 0, .slice none 0 0, .slice none 0 0, .slice none 0 0] 55)).alloc (.cells #[.int .i64 0, .slice none 0 0, .slice none 0 0, .slice none 0 0] 55) = W3 := ⟨_, rfl⟩
  have hz : W3.heap.size = W.heap.size + 3 := by rw [← hW3]; simp
  rw [hW3] at BX hB3 ⊢
  clear hW3
  have hlt3 := BX.out.lt
  have h3 := h.out.below hB3.out
  have C := now_s h3 n
  replace h3 := Mr.hid h3
  obtain ⟨o0, o1, o2, o3, o4, o5⟩ := BX.out.opc
  simp only at o0 o1 o2 o3 o4 o5
  go_wp2_with (first | (go_at_call 16; refine C.mono ?_; clear C; rintro e w4 ⟨rfl, m4, f4⟩; have B4 := BX.out.fr f4 hSlt.out; have hlt := B4.lt; have hlt1 : W.heap.size + 1 < w4.heap.size := (by omega); have hlt0 : W.heap.size < w4.heap.size := (by omega); obtain ⟨x0, x1, x2, x3, xf⟩ := B4.x; obtain ⟨r0, r1, r2, r3, rf⟩ := B4.r; replace B4 := Mr.hid B4; replace m4 := Mr.hid m4; replace f4 := Mr.hid f4; clear o0 o1 o2 o3 o4 o5))
  refine bodyPost_ret (v := .agg #[.int .i64 0, .slice none 0 0, .slice none 0 0, .slice none 0 0]) (by simp [results, Try.results20, go_sem, *]) rfl ?_
  exact ⟨_, rfl, ⟨_, _, _, rfl, Has.nil _ _ _ _, Has.nil _ _ _ _, Has.nil _ _ _ _⟩, ask_fin hSlt.out hB3.out hz m4.out f4.out (Fr.setCell (Fr.setCell (Fr.setCell (Fr.setCell (Fr.refl _ _) _ _ (.inl (.inl rfl))) _ _ (.inl (.inl rfl))) _ _ (.inl (.inl rfl))) _ _ (.inl (.inl rfl)))⟩
set_option maxRecDepth 100000 in
set_option maxHeartbeats 2000000 in
theorem ask_2 (h : MemS W S b s mv) (hSlt : ∀ k, S k → k < W.heap.size) (hb : Roomy s.lg s.ah) (th ad n old x : Int) :
    Calls Try.prog 20 #[.pointer (some ⟨b, 0, none⟩), .agg #[.int .i64 2, .int .i64 th, .int .i64 ad, .int .i64 n, .int .u64 old, .int .u64 x]] W (AskPost W S b ⟨(ldR ad s).2, [], [(ldR ad s).1], []⟩ (stp ⟨0, th, ad, 0, 0, 0⟩ mv s) mv) := by
  have BX := Bx3.made W ⟨2, th, ad, n, old, x⟩
  have hB3 : Below W.heap.size W (((W.alloc (.cells #[.int .i64 2, .int .i64 th, .int .i64 ad, .int .i64 n, .int .u64 old, .int .u64 x] 33)).alloc (.cells #[.int .i64 0, .slice none 0 0, .slice none 0 0, .slice none 0 0] 55)).alloc (.cells #[.int .i64 0, .slice none 0 0, .slice none 0 0, .slice none 0 0] 55)) := (((Below.refl _ _).alloc (Nat.le_refl _) _).alloc (by simp) _).alloc (by simp; omega) _
  simp only at BX
  replace BX := Mr.hid BX
  replace hB3 := Mr.hid hB3
  replace h := Mr.hid h
  replace hSlt := Mr.hid hSlt
  go_enter Try.func20, Try.ntmps20
  go_upto_region 2 with fail
  obtain ⟨W3, hW3⟩ : ∃ W3, ((W.alloc (.cells #[.int .i64 2, .int .i64 th, .int .i64 ad, .int .i64 n, .int .u64 old, .int .u64 x] 33)).alloc (.cells #[.int .i64 0, .slice none 0 0, .slice none 0 0, .slice none 0 0] 55)).alloc (.cells #[.int .i64 0, .slice none 0 0, .slice none 0 0, .slice none 0 0] 55) = W3 := ⟨_, rfl⟩
  have hz : W3.heap.size = W.heap.size + 3 := by rw [← hW3]; simp
  rw [hW3] at BX hB3 ⊢
  clear hW3
  have hlt3 := BX.out.lt
  have h3 := h.out.below hB3.out
  have C := load_s h3 hb th ad
  replace h3 := Mr.hid h3
  obtain ⟨o0, o1, o2, o3, o4, o5⟩ := BX.out.opc
  simp only at o0 o1 o2 o3 o4 o5
  generalize ldR ad s = y at *
  obtain ⟨y1, y2⟩ := y
  generalize stp ⟨0, th, ad, 0, 0, 0⟩ mv s = s2 at *
  go_wp2_with (first | (go_at_call 25; refine C.mono ?_; clear C; rintro e w4 ⟨rfl, m4, f4⟩; have B4 := BX.out.fr f4 hSlt.out; have hlt := B4.lt; have hlt1 : W.heap.size + 1 < w4.heap.size := (by omega); have hlt0 : W.heap.size < w4.heap.size := (by omega); obtain ⟨x0, x1, x2, x3, xf⟩ := B4.x; obtain ⟨r0, r1, r2, r3, rf⟩ := B4.r; replace B4 := Mr.hid B4; replace m4 := Mr.hid m4; replace f4 := Mr.hid f4; clear o0 o1 o2 o3 o4 o5) | (go_at_call 13; refine (num_any _ _).mono ?_; rintro e w5 ⟨rfl, hw5⟩; obtain rfl := hw5.symm))
  refine bodyPost_ret (v := .agg #[.int .i64 y2, .slice none 0 0, .slice (some ⟨w4.heap.size, 0, none⟩) 1 1, .slice none 0 0]) (by simp [results, Try.results20, go_sem, *]) rfl ?_
  exact ⟨_, rfl, ⟨_, _, _, rfl, Has.nil _ _ _ _, has_one' #[.int .u64 y1] (by simp) (by show W.heap.size ≤ _; omega) (by simp), Has.nil _ _ _ _⟩, ask_fin hSlt.out hB3.out hz m4.out f4.out (Fr.alloc (Fr.setCell (Fr.setCell (Fr.setCell (Fr.setCell (Fr.setCell (Fr.setCell (Fr.refl _ _) _ _ (.inl (.inr rfl))) _ _ (.inl (.inr rfl))) _ _ (.inl (.inl rfl))) _ _ (.inl (.inl rfl))) _ _ (.inl (.inl rfl))) _ _ (.inl (.inl rfl))) _)⟩
set_option maxRecDepth 100000 in
set_option maxHeartbeats 2000000 in
theorem ask_3 (h : MemS W S b s mv) (hSlt : ∀ k, S k → k < W.heap.size) (hb : Roomy s.lg s.ah) (th ad n old x : Int) :
    Calls Try.prog 20 #[.pointer (some ⟨b, 0, none⟩), .agg #[.int .i64 3, .int .i64 th, .int .i64 ad, .int .i64 n, .int .u64 old, .int .u64 x]] W (AskPost W S b ⟨stR ad s, [], [], []⟩ (stp ⟨1, th, ad, 0, 0, x⟩ mv s) mv) := by
  have BX := Bx3.made W ⟨3, th, ad, n, old, x⟩
  have hB3 : Below W.heap.size W (((W.alloc (.cells #[.int .i64 3, .int .i64 th, .int .i64 ad, .int .i64 n, .int .u64 old, .int .u64 x] 33)).alloc (.cells #[.int .i64 0, .slice none 0 0, .slice none 0 0, .slice none 0 0] 55)).alloc (.cells #[.int .i64 0, .slice none 0 0, .slice none 0 0, .slice none 0 0] 55)) := (((Below.refl _ _).alloc (Nat.le_refl _) _).alloc (by simp) _).alloc (by simp; omega) _
  simp only at BX
  replace BX := Mr.hid BX
  replace hB3 := Mr.hid hB3
  replace h := Mr.hid h
  replace hSlt := Mr.hid hSlt
  go_enter Try.func20, Try.ntmps20
  go_upto_region 2 with fail
  obtain ⟨W3, hW3⟩ : ∃ W3, ((W.alloc (.cells #[.int .i64 3, .int .i64 th, .int .i64 ad, .int .i64 n, .int .u64 old, .int .u64 x] 33)).alloc (.cells #[.int .i64 0, .slice none 0 0, .slice none 0 0, .slice none 0 0] 55)).alloc (.cells #[.int .i64 0, .slice none 0 0, .slice none 0 0, .slice none 0 0] 55) = W3 := ⟨_, rfl⟩
  have hz : W3.heap.size = W.heap.size + 3 := by rw [← hW3]; simp
  rw [hW3] at BX hB3 ⊢
  clear hW3
  have hlt3 := BX.out.lt
  have h3 := h.out.below hB3.out
  have C := store_s h3 hb th ad x
  replace h3 := Mr.hid h3
  obtain ⟨o0, o1, o2, o3, o4, o5⟩ := BX.out.opc
  simp only at o0 o1 o2 o3 o4 o5
  generalize stR ad s = y at *
  generalize stp ⟨1, th, ad, 0, 0, x⟩ mv s = s2 at *
  go_wp2_with (first | (go_at_call 28; refine C.mono ?_; clear C; rintro e w4 ⟨rfl, m4, f4⟩; have B4 := BX.out.fr f4 hSlt.out; have hlt := B4.lt; have hlt1 : W.heap.size + 1 < w4.heap.size := (by omega); have hlt0 : W.heap.size < w4.heap.size := (by omega); obtain ⟨x0, x1, x2, x3, xf⟩ := B4.x; obtain ⟨r0, r1, r2, r3, rf⟩ := B4.r; replace B4 := Mr.hid B4; replace m4 := Mr.hid m4; replace f4 := Mr.hid f4; clear o0 o1 o2 o3 o4 o5) | (go_at_call 13; refine (num_any _ _).mono ?_; rintro e w5 ⟨rfl, hw5⟩; obtain rfl := hw5.symm))
  refine bodyPost_ret (v := .agg #[.int .i64 y, .slice none 0 0, .slice none 0 0, .slice none 0 0]) (by simp [results, Try.results20, go_sem, *]) rfl ?_
  exact ⟨_, rfl, ⟨_, _, _, rfl, Has.nil _ _ _ _, Has.nil _ _ _ _, Has.nil _ _ _ _⟩, ask_fin hSlt.out hB3.out hz m4.out f4.out (Fr.setCell (Fr.setCell (Fr.setCell (Fr.setCell (Fr.setCell (Fr.refl _ _) _ _ (.inl (.inr rfl))) _ _ (.inl (.inl rfl))) _ _ (.inl (.inl rfl))) _ _ (.inl (.inl rfl))) _ _ (.inl (.inl rfl)))⟩
set_option maxRecDepth 100000 in
set_option maxHeartbeats 2000000 in
theorem ask_4 (h : MemS W S b s mv) (hSlt : ∀ k, S k → k < W.heap.size) (hb : Roomy s.lg s.ah) (th ad n old x : Int) :
    Calls Try.prog 20 #[.pointer (some ⟨b, 0, none⟩), .agg #[.int .i64 4, .int .i64 th, .int .i64 ad, .int .i64 n, .int .u64 old, .int .u64 x]] W (AskPost W S b ⟨(swR ad old s).2.2, [flagI (swR ad old s).2.1], [(swR ad old s).1], []⟩ (stp ⟨2, th, ad, 0, old, x⟩ mv s) mv) := by
  have BX := Bx3.made W ⟨4, th, ad, n, old, x⟩
  have hB3 : Below W.heap.size W (((W.alloc (.cells #[.int .i64 4, .int .i64 th, .int .i64 ad, .int .i64 n, .int .u64 old, .int .u64 x] 33)).alloc (.cells #[.int .i64 0, .slice none 0 0, .slice none 0 0, .slice none 0 0] 55)).alloc (.cells #[.int .i64 0, .slice none 0 0, .slice none 0 0, .slice none 0 0] 55)) := (((Below.refl _ _).alloc (Nat.le_refl _) _).alloc (by simp) _).alloc (by simp; omega) _
  simp only at BX
  replace BX := Mr.hid BX
  replace hB3 := Mr.hid hB3
  replace h := Mr.hid h
  replace hSlt := Mr.hid hSlt
  go_enter Try.func20, Try.ntmps20
  go_upto_region 2 with fail
  obtain ⟨W3, hW3⟩ : ∃ W3, ((W.alloc (.cells #[.int .i64 4, .int .i64 th, .int .i64 ad, .int .i64 n, .int .u64 old, .int .u64 x] 33)).alloc (.cells #[.int .i64 0, .slice none 0 0, .slice none 0 0, .slice none 0 0] 55)).alloc (.cells #[.int .i64 0, .slice none 0 0, .slice none 0 0, .slice none 0 0] 55) = W3 := ⟨_, rfl⟩
  have hz : W3.heap.size = W.heap.size + 3 := by rw [← hW3]; simp
  rw [hW3] at BX hB3 ⊢
  clear hW3
  have hlt3 := BX.out.lt
  have h3 := h.out.below hB3.out
  have C := swap_s h3 hb th ad old x
  replace h3 := Mr.hid h3
  obtain ⟨o0, o1, o2, o3, o4, o5⟩ := BX.out.opc
  simp only at o0 o1 o2 o3 o4 o5
  generalize swR ad old s = y at *
  obtain ⟨y1, y2, y3⟩ := y
  generalize stp ⟨2, th, ad, 0, old, x⟩ mv s = s2 at *
  go_wp2_with (first | (go_at_call 26; refine C.mono ?_; clear C; rintro e w4 ⟨rfl, m4, f4⟩; have B4 := BX.out.fr f4 hSlt.out; have hlt := B4.lt; have hlt1 : W.heap.size + 1 < w4.heap.size := (by omega); have hlt0 : W.heap.size < w4.heap.size := (by omega); obtain ⟨x0, x1, x2, x3, xf⟩ := B4.x; obtain ⟨r0, r1, r2, r3, rf⟩ := B4.r; replace B4 := Mr.hid B4; replace m4 := Mr.hid m4; replace f4 := Mr.hid f4; clear o0 o1 o2 o3 o4 o5) | (go_at_call 13; refine (num_any _ _).mono ?_; rintro e w5 ⟨rfl, hw5⟩; obtain rfl := hw5.symm) | (go_at_call 35; refine (flag_any _ _).mono ?_; rintro e w5 ⟨rfl, hw5⟩; obtain rfl := hw5.symm))
  refine bodyPost_ret (v := .agg #[.int .i64 y3, .slice (some ⟨w4.heap.size + 1, 0, none⟩) 1 1, .slice (some ⟨w4.heap.size, 0, none⟩) 1 1, .slice none 0 0]) (by simp [results, Try.results20, go_sem, *]) rfl ?_
  exact ⟨_, rfl, ⟨_, _, _, rfl, has_one' #[.int .i64 (flagI y2)] (by simp) (by show W.heap.size ≤ _; omega) (by simp), (has_one' #[.int .u64 y1] (by simp) (by show W.heap.size ≤ _; omega) (by simp)).alloc _, Has.nil _ _ _ _⟩, ask_fin hSlt.out hB3.out hz m4.out f4.out (Fr.alloc (Fr.alloc (Fr.setCell (Fr.setCell (Fr.setCell (Fr.setCell (Fr.setCell (Fr.setCell (Fr.setCell (Fr.refl _ _) _ _ (.inl (.inr rfl))) _ _ (.inl (.inr rfl))) _ _ (.inl (.inr rfl))) _ _ (.inl (.inl rfl))) _ _ (.inl (.inl rfl))) _ _ (.inl (.inl rfl))) _ _ (.inl (.inl rfl))) _) _)⟩
set_option maxRecDepth 100000 in
set_option maxHeartbeats 2000000 in
theorem ask_5 (h : MemS W S b s mv) (hSlt : ∀ k, S k → k < W.heap.size) (hp : Pl ws0 s) (hsm : s.lg.length ≤ 5026338869641) (th ad n old x : Int) :
    Calls Try.prog 20 #[.pointer (some ⟨b, 0, none⟩), .agg #[.int .i64 5, .int .i64 th, .int .i64 ad, .int .i64 n, .int .u64 old, .int .u64 x]] W (AskPost W S b ⟨bkR n s, [], [], []⟩ (bkS ws0 n s) mv) := by
  have BX := Bx3.made W ⟨5, th, ad, n, old, x⟩
  have hB3 : Below W.heap.size W (((W.alloc (.cells #[.int .i64 5, .int .i64 th, .int .i64 ad, .int .i64 n, .int .u64 old, .int .u64 x] 33)).alloc (.cells #[.int .i64 0, .slice none 0 0, .slice none 0 0, .slice none 0 0] 55)).alloc (.cells #[.int .i64 0, .slice none 0 0, .slice none 0 0, .slice none 0 0] 55)) := (((Below.refl _ _).alloc (Nat.le_refl _) _).alloc (by simp) _).alloc (by simp; omega) _
  simp only at BX
  replace BX := Mr.hid BX
  replace hB3 := Mr.hid hB3
  replace h := Mr.hid h
  replace hSlt := Mr.hid hSlt
  go_enter Try.func20, Try.ntmps20
  go_upto_region 2 with fail
  obtain ⟨W3, hW3⟩ : ∃ W3, ((W.alloc (.cells #[.int .i64 5, .int .i64 th, .int .i64 ad, .int .i64 n, .int .u64 old, .int .u64 x] 33)).alloc (.cells #[.int .i64 0, .slice none 0 0, .slice none 0 0, .slice none 0 0] 55)).alloc (.cells #[.int .i64 0, .slice none 0 0, .slice none 0 0, .slice none 0 0] 55) = W3 := ⟨_, rfl⟩
  have hz : W3.heap.size = W.heap.size + 3 := by rw [← hW3]; simp
  rw [hW3] at BX hB3 ⊢
  clear hW3
  have hlt3 := BX.out.lt
  have h3 := h.out.below hB3.out
  have C := back_s h3 hp hsm n
  replace h3 := Mr.hid h3
  obtain ⟨o0, o1, o2, o3, o4, o5⟩ := BX.out.opc
  simp only at o0 o1 o2 o3 o4 o5
  generalize bkR n s = y at *
  generalize bkS ws0 n s = s2 at *
  go_wp2_with (first | (go_at_call 14; refine C.mono ?_; clear C; rintro e w4 ⟨rfl, m4, f4⟩; have B4 := BX.out.fr f4 hSlt.out; have hlt := B4.lt; have hlt1 : W.heap.size + 1 < w4.heap.size := (by omega); have hlt0 : W.heap.size < w4.heap.size := (by omega); obtain ⟨x0, x1, x2, x3, xf⟩ := B4.x; obtain ⟨r0, r1, r2, r3, rf⟩ := B4.r; replace B4 := Mr.hid B4; replace m4 := Mr.hid m4; replace f4 := Mr.hid f4; clear o0 o1 o2 o3 o4 o5) | (go_at_call 13; refine (num_any _ _).mono ?_; rintro e w5 ⟨rfl, hw5⟩; obtain rfl := hw5.symm))
  refine bodyPost_ret (v := .agg #[.int .i64 y, .slice none 0 0, .slice none 0 0, .slice none 0 0]) (by simp [results, Try.results20, go_sem, *]) rfl ?_
  exact ⟨_, rfl, ⟨_, _, _, rfl, Has.nil _ _ _ _, Has.nil _ _ _ _, Has.nil _ _ _ _⟩, ask_fin hSlt.out hB3.out hz m4.out f4.out (Fr.setCell (Fr.setCell (Fr.setCell (Fr.setCell (Fr.setCell (Fr.refl _ _) _ _ (.inl (.inr rfl))) _ _ (.inl (.inl rfl))) _ _ (.inl (.inl rfl))) _ _ (.inl (.inl rfl))) _ _ (.inl (.inl rfl)))⟩
end
end Go.Proofs.Ytilbkminekojcaa.Me
