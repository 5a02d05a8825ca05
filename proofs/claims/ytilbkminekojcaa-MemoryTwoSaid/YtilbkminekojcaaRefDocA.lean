/-
  ask by its contract, kind by kind: doc (written by genask.py).
-/
import Derived.Test.YtilbkminekojcaaRefAskB
namespace Go.Proofs.Ytilbkminekojcaa.Me
open Go.RowKit Mr
set_option linter.unusedVariables false
def DocPost (W : World) (S : Nat → Prop) (b : Nat) (ws0 : List Int) (t : Tld) (s' : St) (mv' : Int) (e : Ending) (w' : World) : Prop :=
  ∃ v, e = .returned v ∧ ToldAt w' (fun k => W.heap.size ≤ k) v t ∧ RmS w' (fun k => S k ∨ W.heap.size ≤ k) b ws0 s' mv' ∧ Fr W w' S
section
variable {W W3 w4 wE : World} {S : Nat → Prop} {b B : Nat} {s s' : St} {mv mv' : Int} {ws0 : List Int}
theorem doc_fin (hSlt : ∀ k, S k → k < W.heap.size) (h3 : Below W.heap.size W W3) (hz : W3.heap.size = W.heap.size + 3) (m4 : RmS w4 (fun k => S k ∨ W3.heap.size ≤ k) b ws0 s' mv') (f4 : Fr W3 w4 S) (fE : Fr w4 wE (fun k => k = W.heap.size + 1 ∨ k = W.heap.size + 1 + 1)) :
    RmS wE (fun k => S k ∨ W.heap.size ≤ k) b ws0 s' mv' ∧ Fr W wE S := by
  refine ⟨(m4.fr fE (fun k hk _ he => ?_)).mono (fun k hk => hk.elim .inl (fun h => .inr (by omega))), ((Fr.of_below h3).trans (f4.mono (fun _ => .inl))).trans (fE.mono (fun k hk => .inr (by omega)))⟩
  rcases hk with hk | hk
  · have := hSlt k hk; omega
  · omega
theorem beat_s {W : World} {S : Nat → Prop} {b : Nat} {ws0 : List Int} {s : St} {mv : Int} (h : RmS W S b ws0 s mv) (x : Int) : W.cell? ⟨b, 3, none⟩ = some (.int .i64 mv) ∧ W.frozen? ⟨b, 3, none⟩ = false ∧ S b ∧ RmS (W.setCell ⟨b, 3, none⟩ (.int .i64 x)) S b ws0 s x ∧ Fr W (W.setCell ⟨b, 3, none⟩ (.int .i64 x)) S := by
  obtain ⟨vf, vn, vt, h⟩ := h
  refine ⟨h.c3, h.fz 3, h.inb, ⟨vf, vn, vt, ⟨?_, h.inb, h.hf.setCell _ _ h.bf, h.hn.setCell _ _ h.bn, h.ht.setCell _ _ h.bt, h.ne, h.len, h.fle⟩⟩, (Fr.refl _ _).setCell _ _ (.inl h.inb)⟩
  rw [setBlk h.blk]; rfl
end
section
variable {W : World} {S : Nat → Prop} {b : Nat} {s : St} {mv : Int} {ws0 : List Int}
set_option maxRecDepth 100000 in
set_option maxHeartbeats 2000000 in
theorem doc_1 (h : RmS W S b ws0 s mv) (hSlt : ∀ k, S k → k < W.heap.size) (th ad n old x : Int) :
    Calls Try.prog 21 #[.pointer (some ⟨b, 0, none⟩), .agg #[.int .i64 1, .int .i64 th, .int .i64 ad, .int .i64 n, .int .u64 old, .int .u64 x]] W (DocPost W S b ws0 ⟨0, [], [], []⟩ s n) := by
  have BX := Bx3.made W ⟨1, th, ad, n, old, x⟩
  have hB3 : Below W.heap.size W (((W.alloc (.cells #[.int .i64 1, .int .i64 th, .int .i64 ad, .int .i64 n, .int .u64 old, .int .u64 x] 33)).alloc (.cells #[.int .i64 0, .slice none 0 0, .slice none 0 0, .slice none 0 0] 55)).alloc (.cells #[.int .i64 0, .slice none 0 0, .slice none 0 0, .slice none 0 0] 55)) := (((Below.refl _ _).alloc (Nat.le_refl _) _).alloc (by simp) _).alloc (by simp; omega) _
  simp only at BX
  replace BX := Mr.hid BX
  replace hB3 := Mr.hid hB3
  replace h := Mr.hid h
  replace hSlt := Mr.hid hSlt
  go_enter Try.func21, Try.ntmps21
  go_upto_region 2 with fail
  obtain ⟨W3, hW3⟩ : ∃ W3, ((W.alloc (.cells #[.int .i64 1, .int .i64 th, .int .i64 ad, .int .i64 n, .int .u64 old, .int .u64 x] 33)).alloc (.cells #[.int .i64 0, .slice none 0 0, .slice none 0 0, .slice none 0 0] 55)).alloc (.cells #[.int .i64 0, .slice none 0 0, .slice none 0 0, .slice none 0 0] 55) = W3 := ⟨_, rfl⟩
  have hz : W3.heap.size = W.heap.size + 3 := by rw [← hW3]; simp
  rw [hW3] at BX hB3 ⊢
  clear hW3
  have hlt3 := BX.out.lt
  have h3 := h.out.below hB3.out
  have hlt1 : W.heap.size + 1 < W3.heap.size := by omega
  have hlt0 : W.heap.size < W3.heap.size := by omega
  obtain ⟨x0, x1, x2, x3, xf⟩ := BX.out.x
  obtain ⟨r0, r1, r2, r3, rf⟩ := BX.out.r
  obtain ⟨bt1, bt2, bt3, bt4, bt5⟩ := beat_s h3 n
  have hbl := hSlt.out b bt3
  have hb1 : b ≠ W.heap.size := by omega
  have hb2 : b ≠ W.heap.size + 1 := by omega
  have hb3 : b ≠ W.heap.size + 1 + 1 := by omega
  replace bt4 := Mr.hid bt4
  replace bt5 := Mr.hid bt5
  replace h3 := Mr.hid h3
  obtain ⟨o0, o1, o2, o3, o4, o5⟩ := BX.out.opc
  simp only at o0 o1 o2 o3 o4 o5
  go_wp2
  refine bodyPost_ret (v := .agg #[.int .i64 0, .slice none 0 0, .slice none 0 0, .slice none 0 0]) (by simp [results, Try.results21, go_sem, *]) rfl ?_
  exact ⟨_, rfl, ⟨_, _, _, rfl, Has.nil _ _ _ _, Has.nil _ _ _ _, Has.nil _ _ _ _⟩, doc_fin hSlt.out hB3.out hz (bt4.out.mono (fun _ => .inl)) bt5.out (Fr.setCell (Fr.setCell (Fr.setCell (Fr.setCell (Fr.refl _ _) _ _ (.inl (.inl rfl))) _ _ (.inl (.inl rfl))) _ _ (.inl (.inl rfl))) _ _ (.inl (.inl rfl)))⟩
set_option maxRecDepth 100000 in
set_option maxHeartbeats 2000000 in
theorem doc_2 (h : RmS W S b ws0 s mv) (hSlt : ∀ k, S k → k < W.heap.size) (hb : (s.lg.length + 1 + (s.lg.length + 1) / 4 + 192) * 56 ≤ 281474976710656) (th ad n old x : Int) :
    Calls Try.prog 21 #[.pointer (some ⟨b, 0, none⟩), .agg #[.int .i64 2, .int .i64 th, .int .i64 ad, .int .i64 n, .int .u64 old, .int .u64 x]] W (DocPost W S b ws0 ⟨(ldR ad s).2, [], [(ldR ad s).1], []⟩ (stp ⟨0, th, ad, 0, 0, 0⟩ mv s) mv) := by
  have BX := Bx3.made W ⟨2, th, ad, n, old, x⟩
  have hB3 : Below W.heap.size W (((W.alloc (.cells #[.int .i64 2, .int .i64 th, .int .i64 ad, .int .i64 n, .int .u64 old, .int .u64 x] 33)).alloc (.cells #[.int .i64 0, .slice none 0 0, .slice none 0 0, .slice none 0 0] 55)).alloc (.cells #[.int .i64 0, .slice none 0 0, .slice none 0 0, .slice none 0 0] 55)) := (((Below.refl _ _).alloc (Nat.le_refl _) _).alloc (by simp) _).alloc (by simp; omega) _
  simp only at BX
  replace BX := Mr.hid BX
  replace hB3 := Mr.hid hB3
  replace h := Mr.hid h
  replace hSlt := Mr.hid hSlt
  go_enter Try.func21, Try.ntmps21
  go_upto_region 2 with fail
  obtain ⟨W3, hW3⟩ : ∃ W3, ((W.alloc (.cells #[.int .i64 2, .int .i64 th, .int .i64 ad, .int .i64 n, .int .u64 old, .int .u64 x] 33)).alloc (.cells #[.int .i64 0, .slice none 0 0, .slice none 0 0, .slice none 0 0] 55)).alloc (.cells #[.int .i64 0, .slice none 0 0, .slice none 0 0, .slice none 0 0] 55) = W3 := ⟨_, rfl⟩
  have hz : W3.heap.size = W.heap.size + 3 := by rw [← hW3]; simp
  rw [hW3] at BX hB3 ⊢
  clear hW3
  have hlt3 := BX.out.lt
  have h3 := h.out.below hB3.out
  have C := rload_s h3 hb th ad
  replace hb := Mr.hid hb
  replace h3 := Mr.hid h3
  obtain ⟨o0, o1, o2, o3, o4, o5⟩ := BX.out.opc
  simp only at o0 o1 o2 o3 o4 o5
  generalize ldR ad s = y at *
  obtain ⟨y1, y2⟩ := y
  generalize stp ⟨0, th, ad, 0, 0, 0⟩ mv s = s2 at *
  go_wp2_with (first | (go_at_call 38; refine C.mono ?_; clear C; rintro e w4 ⟨rfl, m4, f4⟩; have B4 := BX.out.fr f4 hSlt.out; have hlt := B4.lt; have hlt1 : W.heap.size + 1 < w4.heap.size := (by omega); have hlt0 : W.heap.size < w4.heap.size := (by omega); obtain ⟨x0, x1, x2, x3, xf⟩ := B4.x; obtain ⟨r0, r1, r2, r3, rf⟩ := B4.r; replace B4 := Mr.hid B4; replace m4 := Mr.hid m4; replace f4 := Mr.hid f4; clear o0 o1 o2 o3 o4 o5))
  refine bodyPost_ret (v := .agg #[.int .i64 y2, .slice none 0 0, .slice (some ⟨w4.heap.size, 0, none⟩) 1 1, .slice none 0 0]) (by simp [results, Try.results21, go_sem, *]) rfl ?_
  exact ⟨_, rfl, ⟨_, _, _, rfl, Has.nil _ _ _ _, has_one' #[.int .u64 y1] (by simp) (by show W.heap.size ≤ _; omega) (by simp), Has.nil _ _ _ _⟩, doc_fin hSlt.out hB3.out hz m4.out f4.out (Fr.alloc (Fr.setCell (Fr.setCell (Fr.setCell (Fr.setCell (Fr.setCell (Fr.setCell (Fr.refl _ _) _ _ (.inl (.inr rfl))) _ _ (.inl (.inr rfl))) _ _ (.inl (.inl rfl))) _ _ (.inl (.inl rfl))) _ _ (.inl (.inl rfl))) _ _ (.inl (.inl rfl))) _)⟩
set_option maxRecDepth 100000 in
set_option maxHeartbeats 2000000 in
theorem doc_3 (h : RmS W S b ws0 s mv) (hSlt : ∀ k, S k → k < W.heap.size) (hb : (s.lg.length + 1 + (s.lg.length + 1) / 4 + 192) * 56 ≤ 281474976710656) (th ad n old x : Int) :
    Calls Try.prog 21 #[.pointer (some ⟨b, 0, none⟩), .agg #[.int .i64 3, .int .i64 th, .int .i64 ad, .int .i64 n, .int .u64 old, .int .u64 x]] W (DocPost W S b ws0 ⟨stR ad s, [], [], []⟩ (stp ⟨1, th, ad, 0, 0, x⟩ mv s) mv) := by
  have BX := Bx3.made W ⟨3, th, ad, n, old, x⟩
  have hB3 : Below W.heap.size W (((W.alloc (.cells #[.int .i64 3, .int .i64 th, .int .i64 ad, .int .i64 n, .int .u64 old, .int .u64 x] 33)).alloc (.cells #[.int .i64 0, .slice none 0 0, .slice none 0 0, .slice none 0 0] 55)).alloc (.cells #[.int .i64 0, .slice none 0 0, .slice none 0 0, .slice none 0 0] 55)) := (((Below.refl _ _).alloc (Nat.le_refl _) _).alloc (by simp) _).alloc (by simp; omega) _
  simp only at BX
  replace BX := Mr.hid BX
  replace hB3 := Mr.hid hB3
  replace h := Mr.hid h
  replace hSlt := Mr.hid hSlt
  go_enter Try.func21, Try.ntmps21
  go_upto_region 2 with fail
  obtain ⟨W3, hW3⟩ : ∃ W3, ((W.alloc (.cells #[.int .i64 3, .int .i64 th, .int .i64 ad, .int .i64 n, .int .u64 old, .int .u64 x] 33)).alloc (.cells #[.int .i64 0, .slice none 0 0, .slice none 0 0, .slice none 0 0] 55)).alloc (.cells #[.int .i64 0, .slice none 0 0, .slice none 0 0, .slice none 0 0] 55) = W3 := ⟨_, rfl⟩
  have hz : W3.heap.size = W.heap.size + 3 := by rw [← hW3]; simp
  rw [hW3] at BX hB3 ⊢
  clear hW3
  have hlt3 := BX.out.lt
  have h3 := h.out.below hB3.out
  have C := rstore_s h3 hb th ad x
  replace hb := Mr.hid hb
  replace h3 := Mr.hid h3
  obtain ⟨o0, o1, o2, o3, o4, o5⟩ := BX.out.opc
  simp only at o0 o1 o2 o3 o4 o5
  generalize stR ad s = y at *
  generalize stp ⟨1, th, ad, 0, 0, x⟩ mv s = s2 at *
  go_wp2_with (first | (go_at_call 39; refine C.mono ?_; clear C; rintro e w4 ⟨rfl, m4, f4⟩; have B4 := BX.out.fr f4 hSlt.out; have hlt := B4.lt; have hlt1 : W.heap.size + 1 < w4.heap.size := (by omega); have hlt0 : W.heap.size < w4.heap.size := (by omega); obtain ⟨x0, x1, x2, x3, xf⟩ := B4.x; obtain ⟨r0, r1, r2, r3, rf⟩ := B4.r; replace B4 := Mr.hid B4; replace m4 := Mr.hid m4; replace f4 := Mr.hid f4; clear o0 o1 o2 o3 o4 o5))
  refine bodyPost_ret (v := .agg #[.int .i64 y, .slice none 0 0, .slice none 0 0, .slice none 0 0]) (by simp [results, Try.results21, go_sem, *]) rfl ?_
  exact ⟨_, rfl, ⟨_, _, _, rfl, Has.nil _ _ _ _, Has.nil _ _ _ _, Has.nil _ _ _ _⟩, doc_fin hSlt.out hB3.out hz m4.out f4.out (Fr.setCell (Fr.setCell (Fr.setCell (Fr.setCell (Fr.setCell (Fr.refl _ _) _ _ (.inl (.inr rfl))) _ _ (.inl (.inl rfl))) _ _ (.inl (.inl rfl))) _ _ (.inl (.inl rfl))) _ _ (.inl (.inl rfl)))⟩
set_option maxRecDepth 100000 in
set_option maxHeartbeats 2000000 in
theorem doc_4 (h : RmS W S b ws0 s mv) (hSlt : ∀ k, S k → k < W.heap.size) (hb : (s.lg.length + 1 + (s.lg.length + 1) / 4 + 192) * 56 ≤ 281474976710656) (th ad n old x : Int) :
    Calls Try.prog 21 #[.pointer (some ⟨b, 0, none⟩), .agg #[.int .i64 4, .int .i64 th, .int .i64 ad, .int .i64 n, .int .u64 old, .int .u64 x]] W (DocPost W S b ws0 ⟨(swR ad old s).2.2, [flagI (swR ad old s).2.1], [(swR ad old s).1], []⟩ (stp ⟨2, th, ad, 0, old, x⟩ mv s) mv) := by
  have BX := Bx3.made W ⟨4, th, ad, n, old, x⟩
  have hB3 : Below W.heap.size W (((W.alloc (.cells #[.int .i64 4, .int .i64 th, .int .i64 ad, .int .i64 n, .int .u64 old, .int .u64 x] 33)).alloc (.cells #[.int .i64 0, .slice none 0 0, .slice none 0 0, .slice none 0 0] 55)).alloc (.cells #[.int .i64 0, .slice none 0 0, .slice none 0 0, .slice none 0 0] 55)) := (((Below.refl _ _).alloc (Nat.le_refl _) _).alloc (by simp) _).alloc (by simp; omega) _
  simp only at BX
  replace BX := Mr.hid BX
  replace hB3 := Mr.hid hB3
  replace h := Mr.hid h
  replace hSlt := Mr.hid hSlt
  go_enter Try.func21, Try.ntmps21
  go_upto_region 2 with fail
  obtain ⟨W3, hW3⟩ : ∃ W3, ((W.alloc (.cells #[.int .i64 4, .int .i64 th, .int .i64 ad, .int .i64 n, .int .u64 old, .int .u64 x] 33)).alloc (.cells #[.int .i64 0, .slice none 0 0, .slice none 0 0, .slice none 0 0] 55)).alloc (.cells #[.int .i64 0, .slice none 0 0, .slice none 0 0, .slice none 0 0] 55) = W3 := ⟨_, rfl⟩
  have hz : W3.heap.size = W.heap.size + 3 := by rw [← hW3]; simp
  rw [hW3] at BX hB3 ⊢
  clear hW3
  have hlt3 := BX.out.lt
  have h3 := h.out.below hB3.out
  have C := rswap_s h3 hb th ad old x
  replace hb := Mr.hid hb
  replace h3 := Mr.hid h3
  obtain ⟨o0, o1, o2, o3, o4, o5⟩ := BX.out.opc
  simp only at o0 o1 o2 o3 o4 o5
  generalize swR ad old s = y at *
  obtain ⟨y1, y2, y3⟩ := y
  generalize stp ⟨2, th, ad, 0, old, x⟩ mv s = s2 at *
  go_wp2_with (first | (go_at_call 40; refine C.mono ?_; clear C; rintro e w4 ⟨rfl, m4, f4⟩; have B4 := BX.out.fr f4 hSlt.out; have hlt := B4.lt; have hlt1 : W.heap.size + 1 < w4.heap.size := (by omega); have hlt0 : W.heap.size < w4.heap.size := (by omega); obtain ⟨x0, x1, x2, x3, xf⟩ := B4.x; obtain ⟨r0, r1, r2, r3, rf⟩ := B4.r; replace B4 := Mr.hid B4; replace m4 := Mr.hid m4; replace f4 := Mr.hid f4; clear o0 o1 o2 o3 o4 o5) | (go_at_call 35; refine (flag_any _ _).mono ?_; rintro e w5 ⟨rfl, hw5⟩; obtain rfl := hw5.symm))
  refine bodyPost_ret (v := .agg #[.int .i64 y3, .slice (some ⟨w4.heap.size + 1, 0, none⟩) 1 1, .slice (some ⟨w4.heap.size, 0, none⟩) 1 1, .slice none 0 0]) (by simp [results, Try.results21, go_sem, *]) rfl ?_
  exact ⟨_, rfl, ⟨_, _, _, rfl, has_one' #[.int .i64 (flagI y2)] (by simp) (by show W.heap.size ≤ _; omega) (by simp), (has_one' #[.int .u64 y1] (by simp) (by show W.heap.size ≤ _; omega) (by simp)).alloc _, Has.nil _ _ _ _⟩, doc_fin hSlt.out hB3.out hz m4.out f4.out (Fr.alloc (Fr.alloc (Fr.setCell (Fr.setCell (Fr.setCell (Fr.setCell (Fr.setCell (Fr.setCell (Fr.setCell (Fr.refl _ _) _ _ (.inl (.inr rfl))) _ _ (.inl (.inr rfl))) _ _ (.inl (.inr rfl))) _ _ (.inl (.inl rfl))) _ _ (.inl (.inl rfl))) _ _ (.inl (.inl rfl))) _ _ (.inl (.inl rfl))) _) _)⟩
set_option maxRecDepth 100000 in
set_option maxHeartbeats 2000000 in
theorem doc_5 (h : RmS W S b ws0 s mv) (hSlt : ∀ k, S k → k < W.heap.size) (hp : Pl ws0 s) (hb : (s.lg.length + s.lg.length / 4 + 192) * 56 ≤ 281474976710656) (th ad n old x : Int) :
    Calls Try.prog 21 #[.pointer (some ⟨b, 0, none⟩), .agg #[.int .i64 5, .int .i64 th, .int .i64 ad, .int .i64 n, .int .u64 old, .int .u64 x]] W (DocPost W S b ws0 ⟨bkR n s, [], [], []⟩ (bkS ws0 n s) mv) := by
  have BX := Bx3.made W ⟨5, th, ad, n, old, x⟩
  have hB3 : Below W.heap.size W (((W.alloc (.cells #[.int .i64 5, .int .i64 th, .int .i64 ad, .int .i64 n, .int .u64 old, .int .u64 x] 33)).alloc (.cells #[.int .i64 0, .slice none 0 0, .slice none 0 0, .slice none 0 0] 55)).alloc (.cells #[.int .i64 0, .slice none 0 0, .slice none 0 0, .slice none 0 0] 55)) := (((Below.refl _ _).alloc (Nat.le_refl _) _).alloc (by simp) _).alloc (by simp; omega) _
  simp only at BX
  replace BX := Mr.hid BX
  replace hB3 := Mr.hid hB3
  replace h := Mr.hid h
  replace hSlt := Mr.hid hSlt
  go_enter Try.func21, Try.ntmps21
  go_upto_region 2 with fail
  obtain ⟨W3, hW3⟩ : ∃ W3, ((W.alloc (.cells #[.int .i64 5, .int .i64 th, .int .i64 ad, .int .i64 n, .int .u64 old, .int .u64 x] 33)).alloc (.cells #[.int .i64 0, .slice none 0 0, .slice none 0 0, .slice none 0 0] 55)).alloc (.cells #[.int .i64 0, .slice none 0 0, .slice none 0 0, .slice none 0 0] 55) = W3 := ⟨_, rfl⟩
  have hz : W3.heap.size = W.heap.size + 3 := by rw [← hW3]; simp
  rw [hW3] at BX hB3 ⊢
  clear hW3
  have hlt3 := BX.out.lt
  have h3 := h.out.below hB3.out
  have C := rback_s h3 hp hb n
  replace hb := Mr.hid hb
  replace h3 := Mr.hid h3
  obtain ⟨o0, o1, o2, o3, o4, o5⟩ := BX.out.opc
  simp only at o0 o1 o2 o3 o4 o5
  generalize bkR n s = y at *
  generalize bkS ws0 n s = s2 at *
  go_wp2_with (first | (go_at_call 41; refine C.mono ?_; clear C; rintro e w4 ⟨rfl, m4, f4⟩; have B4 := BX.out.fr f4 hSlt.out; have hlt := B4.lt; have hlt1 : W.heap.size + 1 < w4.heap.size := (by omega); have hlt0 : W.heap.size < w4.heap.size := (by omega); obtain ⟨x0, x1, x2, x3, xf⟩ := B4.x; obtain ⟨r0, r1, r2, r3, rf⟩ := B4.r; replace B4 := Mr.hid B4; replace m4 := Mr.hid m4; replace f4 := Mr.hid f4; clear o0 o1 o2 o3 o4 o5))
  refine bodyPost_ret (v := .agg #[.int .i64 y, .slice none 0 0, .slice none 0 0, .slice none 0 0]) (by simp [results, Try.results21, go_sem, *]) rfl ?_
  exact ⟨_, rfl, ⟨_, _, _, rfl, Has.nil _ _ _ _, Has.nil _ _ _ _, Has.nil _ _ _ _⟩, doc_fin hSlt.out hB3.out hz m4.out f4.out (Fr.setCell (Fr.setCell (Fr.setCell (Fr.setCell (Fr.setCell (Fr.refl _ _) _ _ (.inl (.inr rfl))) _ _ (.inl (.inl rfl))) _ _ (.inl (.inl rfl))) _ _ (.inl (.inl rfl))) _ _ (.inl (.inl rfl)))⟩
set_option maxRecDepth 100000 in
set_option maxHeartbeats 2000000 in
theorem doc_6 (h : RmS W S b ws0 s mv) (hSlt : ∀ k, S k → k < W.heap.size) (hsm : s.lg.length ≤ 5026338869641) (th ad n old x : Int) :
    Calls Try.prog 21 #[.pointer (some ⟨b, 0, none⟩), .agg #[.int .i64 6, .int .i64 th, .int .i64 ad, .int .i64 n, .int .u64 old, .int .u64 x]] W (DocPost W S b ws0 ⟨(wrR ad s).2.2, [(wrR ad s).1, (wrR ad s).2.1], [], []⟩ s mv) := by
  have BX := Bx3.made W ⟨6, th, ad, n, old, x⟩
  have hB3 : Below W.heap.size W (((W.alloc (.cells #[.int .i64 6, .int .i64 th, .int .i64 ad, .int .i64 n, .int .u64 old, .int .u64 x] 33)).alloc (.cells #[.int .i64 0, .slice none 0 0, .slice none 0 0, .slice none 0 0] 55)).alloc (.cells #[.int .i64 0, .slice none 0 0, .slice none 0 0, .slice none 0 0] 55)) := (((Below.refl _ _).alloc (Nat.le_refl _) _).alloc (by simp) _).alloc (by simp; omega) _
  simp only at BX
  replace BX := Mr.hid BX
  replace hB3 := Mr.hid hB3
  replace h := Mr.hid h
  replace hSlt := Mr.hid hSlt
  go_enter Try.func21, Try.ntmps21
  go_upto_region 2 with fail
  obtain ⟨W3, hW3⟩ : ∃ W3, ((W.alloc (.cells #[.int .i64 6, .int .i64 th, .int .i64 ad, .int .i64 n, .int .u64 old, .int .u64 x] 33)).alloc (.cells #[.int .i64 0, .slice none 0 0, .slice none 0 0, .slice none 0 0] 55)).alloc (.cells #[.int .i64 0, .slice none 0 0, .slice none 0 0, .slice none 0 0] 55) = W3 := ⟨_, rfl⟩
  have hz : W3.heap.size = W.heap.size + 3 := by rw [← hW3]; simp
  rw [hW3] at BX hB3 ⊢
  clear hW3
  have hlt3 := BX.out.lt
  have h3 := h.out.below hB3.out
  have C := rwriter_s h3 hsm ad
  replace h3 := Mr.hid h3
  obtain ⟨o0, o1, o2, o3, o4, o5⟩ := BX.out.opc
  simp only at o0 o1 o2 o3 o4 o5
  generalize wrR ad s = y at *
  obtain ⟨y1, y2, y3⟩ := y
  go_wp2_with (first | (go_at_call 42; refine C.mono ?_; clear C; rintro e w4 ⟨rfl, m4, f4⟩; have B4 := BX.out.fr f4 hSlt.out; have hlt := B4.lt; have hlt1 : W.heap.size + 1 < w4.heap.size := (by omega); have hlt0 : W.heap.size < w4.heap.size := (by omega); obtain ⟨x0, x1, x2, x3, xf⟩ := B4.x; obtain ⟨r0, r1, r2, r3, rf⟩ := B4.r; replace B4 := Mr.hid B4; replace m4 := Mr.hid m4; replace f4 := Mr.hid f4; clear o0 o1 o2 o3 o4 o5))
  refine bodyPost_ret (v := .agg #[.int .i64 y3, .slice (some ⟨w4.heap.size, 0, none⟩) 2 2, .slice none 0 0, .slice none 0 0]) (by simp [results, Try.results21, go_sem, *]) rfl ?_
  exact ⟨_, rfl, ⟨_, _, _, rfl, has_one' #[.int .i64 y1, .int .i64 y2] (by simp) (by show W.heap.size ≤ _; omega) (by simp), Has.nil _ _ _ _, Has.nil _ _ _ _⟩, doc_fin hSlt.out hB3.out hz m4.out f4.out (Fr.alloc (Fr.setCell (Fr.setCell (Fr.setCell (Fr.setCell (Fr.setCell (Fr.setCell (Fr.refl _ _) _ _ (.inl (.inr rfl))) _ _ (.inl (.inr rfl))) _ _ (.inl (.inl rfl))) _ _ (.inl (.inl rfl))) _ _ (.inl (.inl rfl))) _ _ (.inl (.inl rfl))) _)⟩
set_option maxRecDepth 100000 in
set_option maxHeartbeats 2000000 in
theorem doc_other (h : RmS W S b ws0 s mv) (hSlt : ∀ k, S k → k < W.heap.size) (kk th ad n old x : Int) (hk : kk ≠ 1 ∧ kk ≠ 2 ∧ kk ≠ 3 ∧ kk ≠ 4 ∧ kk ≠ 5 ∧ kk ≠ 6 ∧ kk ≠ 7 ∧ kk ≠ 8 ∧ kk ≠ 9 ∧ kk ≠ 10) :
    Calls Try.prog 21 #[.pointer (some ⟨b, 0, none⟩), .agg #[.int .i64 kk, .int .i64 th, .int .i64 ad, .int .i64 n, .int .u64 old, .int .u64 x]] W (DocPost W S b ws0 ⟨0, [], [], []⟩ s mv) := by
  have BX := Bx3.made W ⟨kk, th, ad, n, old, x⟩
  have hB3 : Below W.heap.size W (((W.alloc (.cells #[.int .i64 kk, .int .i64 th, .int .i64 ad, .int .i64 n, .int .u64 old, .int .u64 x] 33)).alloc (.cells #[.int .i64 0, .slice none 0 0, .slice none 0 0, .slice none 0 0] 55)).alloc (.cells #[.int .i64 0, .slice none 0 0, .slice none 0 0, .slice none 0 0] 55)) := (((Below.refl _ _).alloc (Nat.le_refl _) _).alloc (by simp) _).alloc (by simp; omega) _
  simp only at BX
  replace BX := Mr.hid BX
  replace hB3 := Mr.hid hB3
  replace h := Mr.hid h
  replace hSlt := Mr.hid hSlt
  go_enter Try.func21, Try.ntmps21
  go_upto_region 2 with fail
  obtain ⟨W3, hW3⟩ : ∃ W3, ((W.alloc (.cells #[.int .i64 kk, .int .i64 th, .int .i64 ad, .int .i64 n, .int .u64 old, .int .u64 x] 33)).alloc (.cells #[.int .i64 0, .slice none 0 0, .slice none 0 0, .slice none 0 0] 55)).alloc (.cells #[.int .i64 0, .slice none 0 0, .slice none 0 0, .slice none 0 0] 55) = W3 := ⟨_, rfl⟩
  have hz : W3.heap.size = W.heap.size + 3 := by rw [← hW3]; simp
  rw [hW3] at BX hB3 ⊢
  clear hW3
  have hlt3 := BX.out.lt
  have h3 := h.out.below hB3.out
  have hlt1 : W.heap.size + 1 < W3.heap.size := by omega
  have hlt0 : W.heap.size < W3.heap.size := by omega
  obtain ⟨x0, x1, x2, x3, xf⟩ := BX.out.x
  obtain ⟨r0, r1, r2, r3, rf⟩ := BX.out.r
  have e1 : (kk == 1) = false := by simpa using hk.1
  have e2 : (kk == 2) = false := by simpa using hk.2.1
  have e3 : (kk == 3) = false := by simpa using hk.2.2.1
  have e4 : (kk == 4) = false := by simpa using hk.2.2.2.1
  have e5 : (kk == 5) = false := by simpa using hk.2.2.2.2.1
  have e6 : (kk == 6) = false := by simpa using hk.2.2.2.2.2.1
  have e7 : (kk == 7) = false := by simpa using hk.2.2.2.2.2.2.1
  have e8 : (kk == 8) = false := by simpa using hk.2.2.2.2.2.2.2.1
  have e9 : (kk == 9) = false := by simpa using hk.2.2.2.2.2.2.2.2.1
  have e10 : (kk == 10) = false := by simpa using hk.2.2.2.2.2.2.2.2.2
  clear hk
  replace h3 := Mr.hid h3
  obtain ⟨o0, o1, o2, o3, o4, o5⟩ := BX.out.opc
  simp only at o0 o1 o2 o3 o4 o5
  go_wp2
  refine bodyPost_ret (v := .agg #[.int .i64 0, .slice none 0 0, .slice none 0 0, .slice none 0 0]) (by simp [results, Try.results21, go_sem, *]) rfl ?_
  exact ⟨_, rfl, ⟨_, _, _, rfl, Has.nil _ _ _ _, Has.nil _ _ _ _, Has.nil _ _ _ _⟩, doc_fin hSlt.out hB3.out hz (h3.out.mono (fun _ => .inl)) (Fr.refl _ _) (Fr.setCell (Fr.setCell (Fr.setCell (Fr.setCell (Fr.refl _ _) _ _ (.inl (.inl rfl))) _ _ (.inl (.inl rfl))) _ _ (.inl (.inl rfl))) _ _ (.inl (.inl rfl)))⟩
end
end Go.Proofs.Ytilbkminekojcaa.Me
