/-
  ask by its contract, kind by kind (written by genask.py).
-/
import Derived.Test.YtilbkminekojcaaRefAskA
import Derived.Test.YtilbkminekojcaaMemNilP
namespace Go.Proofs.Ytilbkminekojcaa.Me
open Go.RowKit Mr
set_option linter.unusedVariables false
theorem nmi_ent (l : List (Nat × Acc)) : nmi (l.map (fun x => (x.1 : Int))) = nmc l := by simp [nmi, nmc]
theorem stop_any (k th ad n old x : Int) (w : World) : Calls Try.prog 37 #[.agg #[.int .i64 k, .int .i64 th, .int .i64 ad, .int .i64 n, .int .u64 old, .int .u64 x]] w fun e w' => e = .returned (.int .i64 (stopN ad : Int)) ∧ w' = w.alloc (.cells #[.int .i64 k, .int .i64 th, .int .i64 ad, .int .i64 n, .int .u64 old, .int .u64 x] 33) := by
  have hb : -7 ≤ ad.tmod 8 ∧ ad.tmod 8 ≤ 7 := by
    have h1 := Int.tmod_lt_of_pos ad (b := 8) (by decide)
    have h2 := Int.lt_tmod_of_pos ad (b := 8) (by decide)
    omega
  obtain ⟨j, hj⟩ : ∃ j, ad.tmod 8 = j := ⟨_, rfl⟩
  have hs : (stopN ad : Int) = (j.natAbs : Int) := by unfold stopN; rw [hj]
  rw [hs]
  rw [hj] at hb
  by_cases h0 : j < 0
  · have e : (j.natAbs : Int) = -j := by omega
    rw [e]
    have hd : decide (j < 0) = true := by simpa using h0
    go_enter Try.func37, Try.ntmps37
    go_wp2
    go_ret
    exact ⟨rfl, rfl⟩
  · have e : (j.natAbs : Int) = j := by omega
    rw [e]
    have hd : decide (j < 0) = false := by simpa using h0
    go_enter Try.func37, Try.ntmps37
    go_wp2
    go_ret
    exact ⟨rfl, rfl⟩
section
variable {W : World} {S : Nat → Prop} {b : Nat} {s : St} {mv : Int} {ws0 : List Int}
theorem writer_s (h : MemS W S b s mv) (hsm : s.lg.length ≤ 5026338869641) (ad : Int) : Calls Try.prog 36 #[.pointer (some ⟨b, 0, none⟩), .int .i64 ad] W fun e w' => e = .returned (.tuple #[.int .i64 (wrR ad s).1, .int .i64 (wrR ad s).2.1, .int .i64 (wrR ad s).2.2]) ∧ MemS w' (fun k => S k ∨ W.heap.size ≤ k) b s mv ∧ Fr W w' S := by
  obtain ⟨vw, vl, va, h⟩ := h
  rcases inR_cases ad s with ⟨i, rfl, hi⟩ | ⟨hn, ho⟩
  · refine (writer_any h hsm i hi).mono ?_
    rintro e w' ⟨h1, h2⟩
    exact ⟨by rw [h1]; simp [wrR, inR_nat hi], ⟨_, _, _, (h.below h2).mono (fun _ => .inl)⟩, Fr.of_below h2⟩
  · refine (writer_no h ad ho).mono ?_
    rintro e w' ⟨h1, h2⟩
    exact ⟨by rw [h1]; simp [wrR, hn], ⟨_, _, _, (h.below h2).mono (fun _ => .inl)⟩, Fr.of_below h2⟩
theorem logged_s (h : MemS W S b s mv) (hb : (s.lg.length + s.lg.length / 4 + 192) * 56 ≤ 281474976710656) (fr most : Int) :
    Calls Try.prog 11 #[.pointer (some ⟨b, 0, none⟩), .int .i64 fr, .int .i64 most] W fun e w' => ∃ vn vq k, k = min (s.lg.length - fr.toNat) most.toNat ∧ e = .returned (.tuple #[vn, vq, .bool true]) ∧
      Has w' (fun k => W.heap.size ≤ k) 3 1 vn k (nmc (ent s.lg fr.toNat k)) ∧ Has w' (fun k => W.heap.size ≤ k) 41 7 vq k (lgc ((ent s.lg fr.toNat k).map (·.2))) ∧ Below W.heap.size W w' := by
  obtain ⟨vw, vl, va, h⟩ := h
  exact logged_any h hb fr most
set_option maxRecDepth 100000 in
set_option maxHeartbeats 2000000 in
theorem ask_6 (h : MemS W S b s mv) (hSlt : ∀ k, S k → k < W.heap.size) (hsm : s.lg.length ≤ 5026338869641) (th ad n old x : Int) :
    Calls Try.prog 20 #[.pointer (some ⟨b, 0, none⟩), .agg #[.int .i64 6, .int .i64 th, .int .i64 ad, .int .i64 n, .int .u64 old, .int .u64 x]] W (AskPost W S b ⟨(wrR ad s).2.2, [(wrR ad s).1, (wrR ad s).2.1], [], []⟩ s mv) := by
  have BX := Bx3.made W ⟨6, th, ad, n, old, x⟩
  have hB3 : Below W.heap.size W (((W.alloc (.cells #[.int .i64 6, .int .i64 th, .int .i64 ad, .int .i64 n, .int .u64 old, .int .u64 x] 33)).alloc (.cells #[.int .i64 0, .slice none 0 0, .slice none 0 0, .slice none 0 0] 55)).alloc (.cells #[.int .i64 0, .slice none 0 0, .slice none 0 0, .slice none 0 0] 55)) := (((Below.refl _ _).alloc (Nat.le_refl _) _).alloc (by simp) _).alloc (by simp; omega) _
  simp only at BX
  replace BX := Mr.hid BX
  replace hB3 := Mr.hid hB3
  replace h := Mr.hid h
  replace hSlt := Mr.hid hSlt
  go_enter Try.func20, Try.ntmps20
  go_upto_region 2 with fail
  obtain ⟨W3, hW3⟩ : ∃ W3, ((W.alloc (.cells #[.int .i64 6, .int .i64 th, .int .i64 ad, .int .i64 n, .int .u64 old, .int .u64 x] 33)).alloc (.cells #[.int .i64 0, .slice none 0 0, .slice none 0 0, .slice none 0 0] 55)).alloc (.cells #[.int .i64 0, .slice none 0 0, .slice none 0 0, .slice none 0 0] 55) = W3 := ⟨_, rfl⟩
  have hz : W3.heap.size = W.heap.size + 3 := by rw [← hW3]; simp
  rw [hW3] at BX hB3 ⊢
  clear hW3
  have hlt3 := BX.out.lt
  have h3 := h.out.below hB3.out
  have C := writer_s h3 hsm ad
  replace h3 := Mr.hid h3
  obtain ⟨o0, o1, o2, o3, o4, o5⟩ := BX.out.opc
  simp only at o0 o1 o2 o3 o4 o5
  generalize wrR ad s = y at *
  obtain ⟨y1, y2, y3⟩ := y
  go_wp2_with (first | (go_at_call 36; refine C.mono ?_; clear C; rintro e w4 ⟨rfl, m4, f4⟩; have B4 := BX.out.fr f4 hSlt.out; have hlt := B4.lt; have hlt1 : W.heap.size + 1 < w4.heap.size := (by omega); have hlt0 : W.heap.size < w4.heap.size := (by omega); obtain ⟨x0, x1, x2, x3, xf⟩ := B4.x; obtain ⟨r0, r1, r2, r3, rf⟩ := B4.r; replace B4 := Mr.hid B4; replace m4 := Mr.hid m4; replace f4 := Mr.hid f4; clear o0 o1 o2 o3 o4 o5) | (go_at_call 13; refine (num_any _ _).mono ?_; rintro e w5 ⟨rfl, hw5⟩; obtain rfl := hw5.symm))
  refine bodyPost_ret (v := .agg #[.int .i64 y3, .slice (some ⟨w4.heap.size, 0, none⟩) 2 2, .slice none 0 0, .slice none 0 0]) (by simp [results, Try.results20, go_sem, *]) rfl ?_
  exact ⟨_, rfl, ⟨_, _, _, rfl, has_one' #[.int .i64 y1, .int .i64 y2] (by simp) (by show W.heap.size ≤ _; omega) (by simp), Has.nil _ _ _ _, Has.nil _ _ _ _⟩, ask_fin hSlt.out hB3.out hz m4.out f4.out (Fr.alloc (Fr.setCell (Fr.setCell (Fr.setCell (Fr.setCell (Fr.setCell (Fr.setCell (Fr.refl _ _) _ _ (.inl (.inr rfl))) _ _ (.inl (.inr rfl))) _ _ (.inl (.inl rfl))) _ _ (.inl (.inl rfl))) _ _ (.inl (.inl rfl))) _ _ (.inl (.inl rfl))) _)⟩
set_option maxRecDepth 100000 in
set_option maxHeartbeats 2000000 in
theorem ask_7 (h : MemS W S b s mv) (hSlt : ∀ k, S k → k < W.heap.size) (hb : (s.lg.length + s.lg.length / 4 + 192) * 56 ≤ 281474976710656) (th ad n old x : Int) :
    Calls Try.prog 20 #[.pointer (some ⟨b, 0, none⟩), .agg #[.int .i64 7, .int .i64 th, .int .i64 ad, .int .i64 n, .int .u64 old, .int .u64 x]] W (AskPost W S b ⟨0, (ent s.lg n.toNat (s.lg.length - n.toNat)).map (fun x => (x.1 : Int)), [], (ent s.lg n.toNat (s.lg.length - n.toNat)).map (·.2)⟩ s mv) := by
  have BX := Bx3.made W ⟨7, th, ad, n, old, x⟩
  have hB3 : Below W.heap.size W (((W.alloc (.cells #[.int .i64 7, .int .i64 th, .int .i64 ad, .int .i64 n, .int .u64 old, .int .u64 x] 33)).alloc (.cells #[.int .i64 0, .slice none 0 0, .slice none 0 0, .slice none 0 0] 55)).alloc (.cells #[.int .i64 0, .slice none 0 0, .slice none 0 0, .slice none 0 0] 55)) := (((Below.refl _ _).alloc (Nat.le_refl _) _).alloc (by simp) _).alloc (by simp; omega) _
  simp only at BX
  replace BX := Mr.hid BX
  replace hB3 := Mr.hid hB3
  replace h := Mr.hid h
  replace hSlt := Mr.hid hSlt
  go_enter Try.func20, Try.ntmps20
  go_upto_region 2 with fail
  obtain ⟨W3, hW3⟩ : ∃ W3, ((W.alloc (.cells #[.int .i64 7, .int .i64 th, .int .i64 ad, .int .i64 n, .int .u64 old, .int .u64 x] 33)).alloc (.cells #[.int .i64 0, .slice none 0 0, .slice none 0 0, .slice none 0 0] 55)).alloc (.cells #[.int .i64 0, .slice none 0 0, .slice none 0 0, .slice none 0 0] 55) = W3 := ⟨_, rfl⟩
  have hz : W3.heap.size = W.heap.size + 3 := by rw [← hW3]; simp
  rw [hW3] at BX hB3 ⊢
  clear hW3
  have hlt3 := BX.out.lt
  have h3 := h.out.below hB3.out
  have hsm : s.lg.length ≤ 5026338869641 := by omega
  have N := count_s h3
  have C := logged_s h3 hb n ((s.lg.length : Int) + 1)
  replace hb := Mr.hid hb
  replace h3 := Mr.hid h3
  obtain ⟨o0, o1, o2, o3, o4, o5⟩ := BX.out.opc
  simp only at o0 o1 o2 o3 o4 o5
  go_wp2_with (first | (go_at_call 12; refine N.mono ?_; rintro e w5 ⟨rfl, hw5⟩; obtain rfl := hw5.symm) | (go_at_call 11; refine C.mono ?_; clear C; rintro e w4 ⟨vn, vq, kk, hkk, rfl, hvn, hvq, hB4⟩; have f4 : Fr W3 w4 S := Fr.of_below hB4; have m4 : MemS w4 (fun k => S k ∨ W3.heap.size ≤ k) b s mv := (h3.out.below hB4).mono (fun _ => .inl); obtain ⟨an, cn, rfl, _⟩ := hvn.form; obtain ⟨aq, cq, rfl, _⟩ := hvq.form; replace hvn := Mr.hid hvn; replace hvq := Mr.hid hvq; replace hkk := Mr.hid hkk; have B4 := BX.out.fr f4 hSlt.out; have hlt := B4.lt; have hlt1 : W.heap.size + 1 < w4.heap.size := (by omega); have hlt0 : W.heap.size < w4.heap.size := (by omega); obtain ⟨x0, x1, x2, x3, xf⟩ := B4.x; obtain ⟨r0, r1, r2, r3, rf⟩ := B4.r; replace B4 := Mr.hid B4; replace m4 := Mr.hid m4; replace f4 := Mr.hid f4; clear o0 o1 o2 o3 o4 o5))
  refine bodyPost_ret (v := .agg #[.int .i64 0, .slice an kk cn, .slice none 0 0, .slice aq kk cq]) (by simp [results, Try.results20, go_sem, *]) rfl ?_
  have hkk := hkk.out
  have e1 : kk = s.lg.length - n.toNat := by omega
  refine ⟨_, rfl, ⟨_, _, _, rfl, ?_, Has.nil _ _ _ _, ?_⟩, ask_fin hSlt.out hB3.out hz m4.out f4.out (Fr.setCell (Fr.setCell (Fr.setCell (Fr.setCell (Fr.setCell (Fr.setCell (Fr.refl _ _) _ _ (.inl (.inr rfl))) _ _ (.inl (.inr rfl))) _ _ (.inl (.inl rfl))) _ _ (.inl (.inl rfl))) _ _ (.inl (.inl rfl))) _ _ (.inl (.inl rfl)))⟩
  · rw [nmi_ent, ← e1, List.length_map, ent_length]
    exact (hvn.out.fr (T := fun k => k = W.heap.size + 1 ∨ k = W.heap.size + 1 + 1) (Fr.setCell (Fr.setCell (Fr.setCell (Fr.setCell (Fr.setCell (Fr.setCell (Fr.refl _ _) _ _ (.inl (.inr rfl))) _ _ (.inl (.inr rfl))) _ _ (.inl (.inl rfl))) _ _ (.inl (.inl rfl))) _ _ (.inl (.inl rfl))) _ _ (.inl (.inl rfl))) (fun k hk _ he => by omega)).mono (fun k hk => by omega)
  · rw [← e1, List.length_map, ent_length]
    exact (hvq.out.fr (T := fun k => k = W.heap.size + 1 ∨ k = W.heap.size + 1 + 1) (Fr.setCell (Fr.setCell (Fr.setCell (Fr.setCell (Fr.setCell (Fr.setCell (Fr.refl _ _) _ _ (.inl (.inr rfl))) _ _ (.inl (.inr rfl))) _ _ (.inl (.inl rfl))) _ _ (.inl (.inl rfl))) _ _ (.inl (.inl rfl))) _ _ (.inl (.inl rfl))) (fun k hk _ he => by omega)).mono (fun k hk => by omega)
set_option maxRecDepth 100000 in
set_option maxHeartbeats 2000000 in
theorem ask_8 (h : MemS W S b s mv) (hSlt : ∀ k, S k → k < W.heap.size) (hb : (s.lg.length + s.lg.length / 4 + 192) * 56 ≤ 281474976710656) (th ad n old x : Int) :
    Calls Try.prog 20 #[.pointer (some ⟨b, 0, none⟩), .agg #[.int .i64 8, .int .i64 th, .int .i64 ad, .int .i64 n, .int .u64 old, .int .u64 x]] W (AskPost W S b ⟨0, (ent s.lg n.toNat (min (s.lg.length - n.toNat) (stopN ad))).map (fun x => (x.1 : Int)), [], (ent s.lg n.toNat (min (s.lg.length - n.toNat) (stopN ad))).map (·.2)⟩ s mv) := by
  have BX := Bx3.made W ⟨8, th, ad, n, old, x⟩
  have hB3 : Below W.heap.size W (((W.alloc (.cells #[.int .i64 8, .int .i64 th, .int .i64 ad, .int .i64 n, .int .u64 old, .int .u64 x] 33)).alloc (.cells #[.int .i64 0, .slice none 0 0, .slice none 0 0, .slice none 0 0] 55)).alloc (.cells #[.int .i64 0, .slice none 0 0, .slice none 0 0, .slice none 0 0] 55)) := (((Below.refl _ _).alloc (Nat.le_refl _) _).alloc (by simp) _).alloc (by simp; omega) _
  simp only at BX
  replace BX := Mr.hid BX
  replace hB3 := Mr.hid hB3
  replace h := Mr.hid h
  replace hSlt := Mr.hid hSlt
  go_enter Try.func20, Try.ntmps20
  go_upto_region 2 with fail
  obtain ⟨W3, hW3⟩ : ∃ W3, ((W.alloc (.cells #[.int .i64 8, .int .i64 th, .int .i64 ad, .int .i64 n, .int .u64 old, .int .u64 x] 33)).alloc (.cells #[.int .i64 0, .slice none 0 0, .slice none 0 0, .slice none 0 0] 55)).alloc (.cells #[.int .i64 0, .slice none 0 0, .slice none 0 0, .slice none 0 0] 55) = W3 := ⟨_, rfl⟩
  have hz : W3.heap.size = W.heap.size + 3 := by rw [← hW3]; simp
  rw [hW3] at BX hB3 ⊢
  clear hW3
  have hlt3 := BX.out.lt
  have h3 := h.out.below hB3.out
  have hsm : s.lg.length ≤ 5026338869641 := by omega
  have N := count_s h3
  have LG := fun (W' : World) (hB : Below W3.heap.size W3 W') => logged_s (h3.below hB) hb n (stopN ad : Int)
  have BXs := fun (W' : World) (hB : Below W3.heap.size W3 W') => BX.out.fr (S := fun _ => False) (Fr.of_below hB) (fun k hk => hk.elim)
  have hBs : Below W3.heap.size W3 (W3.alloc (.cells #[.int .i64 8, .int .i64 th, .int .i64 ad, .int .i64 n, .int .u64 old, .int .u64 x] 33)) := (Below.refl _ _).alloc (Nat.le_refl _) _
  have Bs := BXs _ hBs
  replace Bs := Mr.hid Bs
  clear BXs
  replace hBs := Mr.hid hBs
  replace LG := Mr.hid LG
  replace hb := Mr.hid hb
  replace h3 := Mr.hid h3
  obtain ⟨o0, o1, o2, o3, o4, o5⟩ := BX.out.opc
  simp only at o0 o1 o2 o3 o4 o5
  go_wp2_with (first | (go_at_call 12; refine N.mono ?_; rintro e w5 ⟨rfl, hw5⟩; obtain rfl := hw5.symm) | (go_at_call 37; refine (stop_any _ _ _ _ _ _ _).mono ?_; rintro e w5 ⟨rfl, hw5⟩; rw [hw5]; clear hw5 o0 o1 o2 o3 o4 o5; have C := LG.out _ hBs.out; obtain ⟨o0, o1, o2, o3, o4, o5⟩ := Bs.out.opc; simp only at o0 o1 o2 o3 o4 o5) | (go_at_call 11; refine C.mono ?_; clear C; rintro e w4 ⟨vn, vq, kk, hkk, rfl, hvn, hvq, hB5⟩; have hBq := hBs.out; have hsq := hBq.size; have hB4 : Below W3.heap.size W3 w4 := hBq.trans (hB5.mono hsq); replace hsq := Mr.hid hsq; replace hvn := hvn.mono (T := fun k => W3.heap.size ≤ k) (fun k hk => Nat.le_trans hsq.out hk); replace hvq := hvq.mono (T := fun k => W3.heap.size ≤ k) (fun k hk => Nat.le_trans hsq.out hk); have f4 : Fr W3 w4 S := Fr.of_below hB4; have m4 : MemS w4 (fun k => S k ∨ W3.heap.size ≤ k) b s mv := (h3.out.below hB4).mono (fun _ => .inl); obtain ⟨an, cn, rfl, _⟩ := hvn.form; obtain ⟨aq, cq, rfl, _⟩ := hvq.form; replace hvn := Mr.hid hvn; replace hvq := Mr.hid hvq; replace hkk := Mr.hid hkk; have B4 := BX.out.fr f4 hSlt.out; have hlt := B4.lt; have hlt1 : W.heap.size + 1 < w4.heap.size := (by omega); have hlt0 : W.heap.size < w4.heap.size := (by omega); obtain ⟨x0, x1, x2, x3, xf⟩ := B4.x; obtain ⟨r0, r1, r2, r3, rf⟩ := B4.r; replace B4 := Mr.hid B4; replace m4 := Mr.hid m4; replace f4 := Mr.hid f4; clear o0 o1 o2 o3 o4 o5))
  refine bodyPost_ret (v := .agg #[.int .i64 0, .slice an kk cn, .slice none 0 0, .slice aq kk cq]) (by simp [results, Try.results20, go_sem, *]) rfl ?_
  have hkk := hkk.out
  have e1 : kk = min (s.lg.length - n.toNat) (stopN ad) := by omega
  refine ⟨_, rfl, ⟨_, _, _, rfl, ?_, Has.nil _ _ _ _, ?_⟩, ask_fin hSlt.out hB3.out hz m4.out f4.out (Fr.setCell (Fr.setCell (Fr.setCell (Fr.setCell (Fr.setCell (Fr.setCell (Fr.refl _ _) _ _ (.inl (.inr rfl))) _ _ (.inl (.inr rfl))) _ _ (.inl (.inl rfl))) _ _ (.inl (.inl rfl))) _ _ (.inl (.inl rfl))) _ _ (.inl (.inl rfl)))⟩
  · rw [nmi_ent, ← e1, List.length_map, ent_length]
    exact (hvn.out.fr (T := fun k => k = W.heap.size + 1 ∨ k = W.heap.size + 1 + 1) (Fr.setCell (Fr.setCell (Fr.setCell (Fr.setCell (Fr.setCell (Fr.setCell (Fr.refl _ _) _ _ (.inl (.inr rfl))) _ _ (.inl (.inr rfl))) _ _ (.inl (.inl rfl))) _ _ (.inl (.inl rfl))) _ _ (.inl (.inl rfl))) _ _ (.inl (.inl rfl))) (fun k hk _ he => by omega)).mono (fun k hk => by omega)
  · rw [← e1, List.length_map, ent_length]
    exact (hvq.out.fr (T := fun k => k = W.heap.size + 1 ∨ k = W.heap.size + 1 + 1) (Fr.setCell (Fr.setCell (Fr.setCell (Fr.setCell (Fr.setCell (Fr.setCell (Fr.refl _ _) _ _ (.inl (.inr rfl))) _ _ (.inl (.inr rfl))) _ _ (.inl (.inl rfl))) _ _ (.inl (.inl rfl))) _ _ (.inl (.inl rfl))) _ _ (.inl (.inl rfl))) (fun k hk _ he => by omega)).mono (fun k hk => by omega)
set_option maxRecDepth 100000 in
set_option maxHeartbeats 2000000 in
theorem ask_9 (h : MemS W S b s mv) (hSlt : ∀ k, S k → k < W.heap.size) (th ad n old x : Int) :
    Calls Try.prog 20 #[.pointer (some ⟨b, 0, none⟩), .agg #[.int .i64 9, .int .i64 th, .int .i64 ad, .int .i64 n, .int .u64 old, .int .u64 x]] W (AskPost W S b ⟨0, [], s.ws, []⟩ s mv) := by
  have BX := Bx3.made W ⟨9, th, ad, n, old, x⟩
  have hB3 : Below W.heap.size W (((W.alloc (.cells #[.int .i64 9, .int .i64 th, .int .i64 ad, .int .i64 n, .int .u64 old, .int .u64 x] 33)).alloc (.cells #[.int .i64 0, .slice none 0 0, .slice none 0 0, .slice none 0 0] 55)).alloc (.cells #[.int .i64 0, .slice none 0 0, .slice none 0 0, .slice none 0 0] 55)) := (((Below.refl _ _).alloc (Nat.le_refl _) _).alloc (by simp) _).alloc (by simp; omega) _
  simp only at BX
  replace BX := Mr.hid BX
  replace hB3 := Mr.hid hB3
  replace h := Mr.hid h
  replace hSlt := Mr.hid hSlt
  go_enter Try.func20, Try.ntmps20
  go_upto_region 2 with fail
  obtain ⟨W3, hW3⟩ : ∃ W3, ((W.alloc (.cells #[.int .i64 9, .int .i64 th, .int .i64 ad, .int .i64 n, .int .u64 old, .int .u64 x] 33)).alloc (.cells #[.int .i64 0, .slice none 0 0, .slice none 0 0, .slice none 0 0] 55)).alloc (.cells #[.int .i64 0, .slice none 0 0, .slice none 0 0, .slice none 0 0] 55) = W3 := ⟨_, rfl⟩
  have hz : W3.heap.size = W.heap.size + 3 := by rw [← hW3]; simp
  rw [hW3] at BX hB3 ⊢
  clear hW3
  have hlt3 := BX.out.lt
  have h3 := h.out.below hB3.out
  have C := words_s h3
  replace h3 := Mr.hid h3
  obtain ⟨o0, o1, o2, o3, o4, o5⟩ := BX.out.opc
  simp only at o0 o1 o2 o3 o4 o5
  go_wp2_with (first | (go_at_call 15; refine C.mono ?_; clear C; rintro e w4 ⟨v, rfl, hv, hB4⟩; have f4 : Fr W3 w4 S := Fr.of_below hB4; have m4 : MemS w4 (fun k => S k ∨ W3.heap.size ≤ k) b s mv := (h3.out.below hB4).mono (fun _ => .inl); obtain ⟨av, cv, rfl, _⟩ := hv.form; replace hv := Mr.hid hv; have B4 := BX.out.fr f4 hSlt.out; have hlt := B4.lt; have hlt1 : W.heap.size + 1 < w4.heap.size := (by omega); have hlt0 : W.heap.size < w4.heap.size := (by omega); obtain ⟨x0, x1, x2, x3, xf⟩ := B4.x; obtain ⟨r0, r1, r2, r3, rf⟩ := B4.r; replace B4 := Mr.hid B4; replace m4 := Mr.hid m4; replace f4 := Mr.hid f4; clear o0 o1 o2 o3 o4 o5))
  refine bodyPost_ret (v := .agg #[.int .i64 0, .slice none 0 0, .slice av s.ws.length cv, .slice none 0 0]) (by simp [results, Try.results20, go_sem, *]) rfl ?_
  exact ⟨_, rfl, ⟨_, _, _, rfl, Has.nil _ _ _ _, (hv.out.fr (T := fun k => k = W.heap.size + 1 ∨ k = W.heap.size + 1 + 1) (Fr.setCell (Fr.setCell (Fr.setCell (Fr.setCell (Fr.setCell (Fr.refl _ _) _ _ (.inl (.inr rfl))) _ _ (.inl (.inl rfl))) _ _ (.inl (.inl rfl))) _ _ (.inl (.inl rfl))) _ _ (.inl (.inl rfl))) (fun k hk _ he => by omega)).mono (fun k hk => by omega), Has.nil _ _ _ _⟩, ask_fin hSlt.out hB3.out hz m4.out f4.out (Fr.setCell (Fr.setCell (Fr.setCell (Fr.setCell (Fr.setCell (Fr.refl _ _) _ _ (.inl (.inr rfl))) _ _ (.inl (.inl rfl))) _ _ (.inl (.inl rfl))) _ _ (.inl (.inl rfl))) _ _ (.inl (.inl rfl)))⟩
set_option maxRecDepth 100000 in
set_option maxHeartbeats 2000000 in
theorem ask_10 (h : MemS W S b s mv) (hSlt : ∀ k, S k → k < W.heap.size) (hsm : s.lg.length ≤ 5026338869641) (th ad n old x : Int) :
    Calls Try.prog 20 #[.pointer (some ⟨b, 0, none⟩), .agg #[.int .i64 10, .int .i64 th, .int .i64 ad, .int .i64 n, .int .u64 old, .int .u64 x]] W (AskPost W S b ⟨0, [(s.lg.length : Int), (s.ws.length : Int)], [], []⟩ s mv) := by
  have BX := Bx3.made W ⟨10, th, ad, n, old, x⟩
  have hB3 : Below W.heap.size W (((W.alloc (.cells #[.int .i64 10, .int .i64 th, .int .i64 ad, .int .i64 n, .int .u64 old, .int .u64 x] 33)).alloc (.cells #[.int .i64 0, .slice none 0 0, .slice none 0 0, .slice none 0 0] 55)).alloc (.cells #[.int .i64 0, .slice none 0 0, .slice none 0 0, .slice none 0 0] 55)) := (((Below.refl _ _).alloc (Nat.le_refl _) _).alloc (by simp) _).alloc (by simp; omega) _
  simp only at BX
  replace BX := Mr.hid BX
  replace hB3 := Mr.hid hB3
  replace h := Mr.hid h
  replace hSlt := Mr.hid hSlt
  go_enter Try.func20, Try.ntmps20
  go_upto_region 2 with fail
  obtain ⟨W3, hW3⟩ : ∃ W3, ((W.alloc (.cells #[.int .i64 10, .int .i64 th, .int .i64 ad, .int .i64 n, .int .u64 old, .int .u64 x] 33)).alloc (.cells #[.int .i64 0, .slice none 0 0, .slice none 0 0, .slice none 0 0] 55)).alloc (.cells #[.int .i64 0, .slice none 0 0, .slice none 0 0, .slice none 0 0] 55) = W3 := ⟨_, rfl⟩
  have hz : W3.heap.size = W.heap.size + 3 := by rw [← hW3]; simp
  rw [hW3] at BX hB3 ⊢
  clear hW3
  have hlt3 := BX.out.lt
  have h3 := h.out.below hB3.out
  have hlt1 : W.heap.size + 1 < W3.heap.size := by omega
  have hlt0 : W.heap.size < W3.heap.size := by omega
  obtain ⟨x0, x1, x2, x3, xf⟩ := BX.out.x
  obtain ⟨r0, r1, r2, r3, rf⟩ := BX.out.r
  have N := count_s h3
  have N2 := size_s h3
  replace h3 := Mr.hid h3
  obtain ⟨o0, o1, o2, o3, o4, o5⟩ := BX.out.opc
  simp only at o0 o1 o2 o3 o4 o5
  go_wp2_with (first | (go_at_call 12; refine N.mono ?_; rintro e w5 ⟨rfl, hw5⟩; obtain rfl := hw5.symm) | (go_at_call 24; refine N2.mono ?_; rintro e w5 ⟨rfl, hw5⟩; obtain rfl := hw5.symm))
  refine bodyPost_ret (v := .agg #[.int .i64 0, .slice (some ⟨W3.heap.size, 0, none⟩) 2 2, .slice none 0 0, .slice none 0 0]) (by simp [results, Try.results20, go_sem, *]) rfl ?_
  exact ⟨_, rfl, ⟨_, _, _, rfl, has_one' #[.int .i64 (s.lg.length : Int), .int .i64 (s.ws.length : Int)] (by simp) (by show W.heap.size ≤ _; omega) (by simp), Has.nil _ _ _ _, Has.nil _ _ _ _⟩, ask_fin hSlt.out hB3.out hz (h3.out.mono (fun _ => .inl)) (Fr.refl _ _) (Fr.alloc (Fr.setCell (Fr.setCell (Fr.setCell (Fr.setCell (Fr.setCell (Fr.refl _ _) _ _ (.inl (.inr rfl))) _ _ (.inl (.inl rfl))) _ _ (.inl (.inl rfl))) _ _ (.inl (.inl rfl))) _ _ (.inl (.inl rfl))) _)⟩
set_option maxRecDepth 100000 in
set_option maxHeartbeats 2000000 in
theorem ask_other (h : MemS W S b s mv) (hSlt : ∀ k, S k → k < W.heap.size) (kk th ad n old x : Int) (hk : kk ≠ 1 ∧ kk ≠ 2 ∧ kk ≠ 3 ∧ kk ≠ 4 ∧ kk ≠ 5 ∧ kk ≠ 6 ∧ kk ≠ 7 ∧ kk ≠ 8 ∧ kk ≠ 9 ∧ kk ≠ 10) :
    Calls Try.prog 20 #[.pointer (some ⟨b, 0, none⟩), .agg #[.int .i64 kk, .int .i64 th, .int .i64 ad, .int .i64 n, .int .u64 old, .int .u64 x]] W (AskPost W S b ⟨0, [], [], []⟩ s mv) := by
  have BX := Bx3.made W ⟨kk, th, ad, n, old, x⟩
  have hB3 : Below W.heap.size W (((W.alloc (.cells #[.int .i64 kk, .int .i64 th, .int .i64 ad, .int .i64 n, .int .u64 old, .int .u64 x] 33)).alloc (.cells #[.int .i64 0, .slice none 0 0, .slice none 0 0, .slice none 0 0] 55)).alloc (.cells #[.int .i64 0, .slice none 0 0, .slice none 0 0, .slice none 0 0] 55)) := (((Below.refl _ _).alloc (Nat.le_refl _) _).alloc (by simp) _).alloc (by simp; omega) _
  simp only at BX
  replace BX := Mr.hid BX
  replace hB3 := Mr.hid hB3
  replace h := Mr.hid h
  replace hSlt := Mr.hid hSlt
  go_enter Try.func20, Try.ntmps20
  go_upto_region 2 with fail
  obtain ⟨W3, hW3⟩ : ∃ W3, ((W.alloc (.cells #[.int .i64 kk, .int .i64 th, .int .i64 ad, .int .i64 n, .int .u64 old, .int .u64 x] 33)).alloc (.cells #[.int .i64 0, .slice none 0 0, .slice none 0 0, .slice none 0 0] 55)).alloc (.cells #[.int .i64 0, .slice none 0 0, .slice none 0 0, .slice none 0 0] 55) = W3 := ⟨_, rfl⟩
  have hz : W3.heap.size = W.heap.size + 3 := by rw [← hW3]; simp
  rw [hW3] at BX hB3 ⊢
  clear hW3
  have hlt3 := BX.out.lt
  have h3 := h.out.below hB3.out
  have hlt1 : W.heap.size + 1 < W3.heap.size := by omega
  have hlt0 : W.heap.size < W3.heap.size := by omega
  obtain ⟨x0, x1, x2, x3, xf⟩ := BX.out.x
  obtain ⟨r0, r1, r2, r3, rf⟩ := BX.out.r
  have e1 : (kk == 1) = false := by simpa using hk.1
  have e2 : (kk == 2) = false := by simpa using hk.2.1
  have e3 : (kk == 3) = false := by simpa using hk.2.2.1
  have e4 : (kk == 4) = false := by simpa using hk.2.2.2.1
  have e5 : (kk == 5) = false := by simpa using hk.2.2.2.2.1
  have e6 : (kk == 6) = false := by simpa using hk.2.2.2.2.2.1
  have e7 : (kk == 7) = false := by simpa using hk.2.2.2.2.2.2.1
  have e8 : (kk == 8) = false := by simpa using hk.2.2.2.2.2.2.2.1
  have e9 : (kk == 9) = false := by simpa using hk.2.2.2.2.2.2.2.2.1
  have e10 : (kk == 10) = false := by simpa using hk.2.2.2.2.2.2.2.2.2
  clear hk
  replace h3 := Mr.hid h3
  obtain ⟨o0, o1, o2, o3, o4, o5⟩ := BX.out.opc
  simp only at o0 o1 o2 o3 o4 o5
  go_wp2
  refine bodyPost_ret (v := .agg #[.int .i64 0, .slice none 0 0, .slice none 0 0, .slice none 0 0]) (by simp [results, Try.results20, go_sem, *]) rfl ?_
  exact ⟨_, rfl, ⟨_, _, _, rfl, Has.nil _ _ _ _, Has.nil _ _ _ _, Has.nil _ _ _ _⟩, ask_fin hSlt.out hB3.out hz (h3.out.mono (fun _ => .inl)) (Fr.refl _ _) (Fr.setCell (Fr.setCell (Fr.setCell (Fr.setCell (Fr.refl _ _) _ _ (.inl (.inl rfl))) _ _ (.inl (.inl rfl))) _ _ (.inl (.inl rfl))) _ _ (.inl (.inl rfl)))⟩
end
end Go.Proofs.Ytilbkminekojcaa.Me
