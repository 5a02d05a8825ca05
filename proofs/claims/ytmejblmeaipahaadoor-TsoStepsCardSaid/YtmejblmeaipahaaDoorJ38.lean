import Derived.Test.YtmejblmeaipahaaDoorJ37
/-
  TSO: the program's Next.
-/
namespace Go.Proofs.YtmejblmeaipahaaDoor.Ts
open Go.RowKit Mr
set_option linter.unusedVariables false
set_option linter.unusedSimpArgs false
set_option maxRecDepth 100000
theorem stp_len {o : Int} {i : In} {x y : Th} (h : stp o i x = some y) : y.b.length ≤ x.b.length + 1 := by
  unfold stp at h
  repeat' split at h
  all_goals first | (cases h; simp) | (cases h)
theorem ins_len {o : Int} {c : List In} {x y : Th} (h : ins o c x = some y) : y.b.length ≤ x.b.length + 1 := by
  unfold ins at h
  split at h
  · cases h
  · rename_i i hi
    cases hs : stp o i x with
    | none => rw [hs] at h; cases h
    | some z => rw [hs] at h; cases h; show z.b.length ≤ _; exact stp_len hs
theorem out1_len {o : Int} {x y : Th} {ad : Int} (h : out1 o x ad = some y) : y.b.length ≤ x.b.length + 1 := by
  unfold out1 at h
  repeat' split at h
  all_goals first | (cases h; dsimp only; have := List.length_eraseIdx_le x.b (by assumption); omega) | (cases h)
theorem act_len {l : Lt} {o : Int} {s : Sv} {t : Tn} {y : Th} (h : act l o s t = some y) : y.b.length ≤ (vw s t.th.toNat).b.length + 1 := by
  unfold act at h
  repeat' split at h
  · exact out1_len h
  · exact ins_len h
  · cases h
theorem bel_of {l : Lt} {o : Int} {s : Sv} (h : belB l o s = true) : Shp l s ∧ ∀ k c, l.th[k]? = some c → Tp o c.length l.ws.length (vw s k) := by
  simp only [belB, Bool.and_eq_true, decide_eq_true_eq, List.all_eq_true, List.mem_range] at h
  obtain ⟨⟨⟨⟨h1, h2⟩, h3⟩, h4⟩, h5⟩ := h
  refine ⟨⟨h1, h2, h3, h4⟩, fun k c hk => ?_⟩
  have hl := (List.getElem?_eq_some_iff.1 hk).1
  have h6 := h5 k hl
  have hg : l.th.getD k [] = c := by simp [List.getD_eq_getElem?_getD, hk]
  unfold belT at h6
  rw [hg] at h6
  simp only [inB, bfB, Bool.and_eq_true, decide_eq_true_eq, List.all_eq_true, Bool.not_eq_true', Bool.and_eq_false_iff, decide_eq_false_iff_not] at h6
  obtain ⟨⟨p1, p2⟩, ⟨p3, p4⟩, p5⟩ := h6
  refine ⟨h1, p1, p2, p3, fun q hq => ?_, fun ho => ?_⟩
  · have := p5 q hq; omega
  · rcases p4 with p4 | p4
    · exact absurd ho p4
    · exact List.eq_nil_of_length_eq_zero (by show (s.bf.getD k []).length = 0; omega)
theorem bel_bf {l : Lt} {o : Int} {s : Sv} (h : belB l o s = true) : ∀ b ∈ s.bf, b.length ≤ 10 := by
  obtain ⟨hs, ht⟩ := bel_of h
  intro b hb
  obtain ⟨k, hk⟩ := List.getElem?_of_mem hb
  have hl := (List.getElem?_eq_some_iff.1 hk).1
  rw [hs.b] at hl
  have := (ht k _ (List.getElem?_eq_getElem hl)).b1
  have e : (vw s k).b = b := by simp [vw, List.getD_eq_getElem?_getD, hk]
  rw [e] at this; exact this
theorem trn_bf {l : Lt} {o : Int} {s : Sv} {t : Tn} (h : ∀ b ∈ s.bf, b.length ≤ 10) : ∀ b ∈ (trn l o s t).bf, b.length ≤ 11 := by
  intro b hb
  unfold trn at hb
  cases ha : act l o s t with
  | none => rw [ha] at hb; have := h b hb; omega
  | some y =>
    rw [ha] at hb
    have hb' : b ∈ s.bf.set t.th.toNat y.b := hb
    rcases List.mem_or_eq_of_mem_set hb' with hb' | rfl
    · have := h b hb'; omega
    · have h1 := act_len ha
      have h2 : (vw s t.th.toNat).b.length ≤ 10 := by
        show (s.bf.getD t.th.toNat []).length ≤ 10
        rw [List.getD_eq_getElem?_getD]
        cases hg : s.bf[t.th.toNat]? with
        | none => simp
        | some c => exact h c (List.mem_of_getElem? hg)
      omega
/-- What Next answers. -/
def nxtR (l : Lt) (o : Int) (s : Sv) (t : Tn) : Sv × Bool × Int := if bothE l o ≠ 0 then (nilS, false, bothE l o) else if belB l o s = false then (nilS, false, 2) else (trn l o s t, (act l o s t).isSome, 0)
def NxtP (w w' : World) (x : Sv × Bool × Int) (e : Ending) : Prop := ∃ v, e = .returned (.tuple #[.agg v, .bool x.2.1, .int .i64 x.2.2]) ∧ SvAt w' v x.1 x.1.ws.length x.1.rg.length x.1.pl.length x.1.bf.length ∧ Below w.heap.size w w'
def bxN (w : World) (aw ah : Option Addr) (nw cw nt ct : Nat) (vs : Array Value) (t : Tn) : World := ((bx1 w aw ah nw cw nt ct vs).alloc (.cells #[.int .i64 t.th, .bool t.ou, .int .i64 t.ad] 44)).alloc (.cells #[.slice none 0 0, .slice none 0 0, .slice none 0 0, .slice none 0 0] 32)
theorem bxN_below (w : World) (aw ah : Option Addr) (nw cw nt ct : Nat) (vs : Array Value) (t : Tn) : Below w.heap.size w (bxN w aw ah nw cw nt ct vs t) := ((bx1_below w aw ah nw cw nt ct vs).alloc (by simp [bx1]; omega) _).alloc (by simp [bx1]; omega) _
theorem bxN_0 (w : World) (aw ah : Option Addr) (nw cw nt ct : Nat) (vs : Array Value) (t : Tn) : (bxN w aw ah nw cw nt ct vs t).heap[w.heap.size]? = some (.cells #[.slice aw nw cw, .slice ah nt ct] 25 (0, 0)) := (Lib.alloc_old _ _ _ (by simp [bx1]; omega)).trans ((Lib.alloc_old _ _ _ (by simp [bx1]; omega)).trans (bx1_0 w aw ah nw cw nt ct vs))
theorem bxN_1 (w : World) (aw ah : Option Addr) (nw cw nt ct : Nat) (vs : Array Value) (t : Tn) : (bxN w aw ah nw cw nt ct vs t).heap[w.heap.size + 1]? = some (.cells vs 32 (0, 0)) := (Lib.alloc_old _ _ _ (by simp [bx1])).trans ((Lib.alloc_old _ _ _ (by simp [bx1])).trans (bx1_1 w aw ah nw cw nt ct vs))
theorem bxN_2 (w : World) (aw ah : Option Addr) (nw cw nt ct : Nat) (vs : Array Value) (t : Tn) : (bxN w aw ah nw cw nt ct vs t).heap[w.heap.size + 1 + 1]? = some (.cells #[.int .i64 t.th, .bool t.ou, .int .i64 t.ad] 44 (0, 0)) := (Lib.alloc_old _ _ _ (by simp [bx1])).trans (new_at _ _ _ (by simp [bx1]))
theorem bxN_3 (w : World) (aw ah : Option Addr) (nw cw nt ct : Nat) (vs : Array Value) (t : Tn) : (bxN w aw ah nw cw nt ct vs t).heap[w.heap.size + 1 + 1 + 1]? = some (.cells #[.slice none 0 0, .slice none 0 0, .slice none 0 0, .slice none 0 0] 32 (0, 0)) := new_at _ _ _ (by simp [bx1])
/-- What Next is asked. -/
structure Nq (w : World) (l : Lt) (s : Sv) (aw ah a0 a1 a2 a3 : Option Addr) (nw nt n0 n1 n2 n3 : Nat) : Prop where
  E : Env w
  I : IsAt w aw nw l.ws
  T : ThAt w ah nt l.th
  S0 : IsAt w a0 n0 s.ws
  S1 : RgAt w a1 n1 s.rg
  S2 : IsAt w a2 n2 s.pl
  S3 : BfAt w a3 n3 s.bf
theorem Nq.below {w W : World} {l : Lt} {s : Sv} {aw ah a0 a1 a2 a3 : Option Addr} {nw nt n0 n1 n2 n3 : Nat} (h : Nq w l s aw ah a0 a1 a2 a3 nw nt n0 n1 n2 n3) (hB : Below w.heap.size w W) : Nq W l s aw ah a0 a1 a2 a3 nw nt n0 n1 n2 n3 := ⟨h.E.below hB, h.I.below hB, h.T.below hB, h.S0.below hB, h.S1.below hB, h.S2.below hB, h.S3.below hB⟩
set_option maxHeartbeats 8000000 in
theorem Next_err (l : Lt) (o : Int) (s : Sv) (t : Tn) (aw ah a0 a1 a2 a3 : Option Addr) (nw cw nt ct n0 c0 n1 c1 n2 c2 n3 c3 : Nat) (w : World) (h : Nq w l s aw ah a0 a1 a2 a3 nw nt n0 n1 n2 n3) (he : bothE l o ≠ 0) :
    Calls Tryd.prog 17 #[.agg #[.slice aw nw cw, .slice ah nt ct], .int .i64 o, .agg #[.slice a0 n0 c0, .slice a1 n1 c1, .slice a2 n2 c2, .slice a3 n3 c3], tnV t] w fun e w' => NxtP w w' (nxtR l o s t) e := by
  have B0 := bxN_below w aw ah nw cw nt ct #[.slice a0 n0 c0, .slice a1 n1 c1, .slice a2 n2 c2, .slice a3 n3 c3] t
  have b0 := bxN_0 w aw ah nw cw nt ct #[.slice a0 n0 c0, .slice a1 n1 c1, .slice a2 n2 c2, .slice a3 n3 c3] t
  have b3 := bxN_3 w aw ah nw cw nt ct #[.slice a0 n0 c0, .slice a1 n1 c1, .slice a2 n2 c2, .slice a3 n3 c3] t
  have h1 := h.below B0
  have CK := Mr.hid (both_any l o aw nw cw ah nt ct _ h1.E h1.I.1 h1.T)
  have x0 := cell_blk b0 0
  have x1 := cell_blk b0 1
  have hfin : Hid (∀ W, Below w.heap.size w W → NxtP w W (nxtR l o s t) (.returned (.tuple #[.agg #[.slice none 0 0, .slice none 0 0, .slice none 0 0, .slice none 0 0], .bool false, .int .i64 (bothE l o)]))) := fun W hW => by
    unfold nxtR; rw [if_pos he]; exact ⟨_, rfl, SvAt.nil W, hW⟩
  have hne : (bothE l o != 0) = true := by simpa using he
  generalize bothE l o = E0 at CK hfin hne
  obtain ⟨th, ou, ad⟩ := t
  unfold tnV
  replace B0 := Mr.hid B0
  have b3' := Mr.hid b3
  clear h h1 b0 b3 he
  unfold bxN bx1 at *
  go_enter Tryd.func17, Tryd.ntmps17
  go_wp2_with (go_at_call 29; refine CK.out.mono ?_; clear CK; rintro e w2 ⟨rfl, B2⟩; have d1 := (B2.block _ (Array.getElem?_eq_some_iff.1 b3'.out).1).trans b3'.out; have y0 := cell_blk d1 0; have y1 := cell_blk d1 1; have y2 := cell_blk d1 2; have y3 := cell_blk d1 3; have ly := (Array.getElem?_eq_some_iff.1 d1).1; have fy : ∀ k, w2.frozen? ⟨w.heap.size + 1 + 1 + 1, k, none⟩ = false := fun k => fz_of d1; have BB : Hid (Below w.heap.size w w2) := B0.out.trans (B2.mono B0.out.size); clear B2 b3' d1)
  have BE := Mr.hid (emp4_below BB.out (show w.heap.size ≤ w.heap.size + 1 + 1 + 1 by omega))
  refine bodyPost_ret (v := .tuple #[.agg #[.slice none 0 0, .slice none 0 0, .slice none 0 0, .slice none 0 0], .bool false, .int .i64 E0]) (by simp [results, Tryd.results17, go_sem, *]) rfl (hfin.out _ BE.out)
set_option maxHeartbeats 8000000 in
theorem Next_rng (l : Lt) (o : Int) (s : Sv) (t : Tn) (aw ah a0 a1 a2 a3 : Option Addr) (nw cw nt ct n0 c0 n1 c1 n2 c2 n3 c3 : Nat) (w : World) (h : Nq w l s aw ah a0 a1 a2 a3 nw nt n0 n1 n2 n3) (he : bothE l o = 0) (hb : belB l o s = false) (hc : chkB l = true) :
    Calls Tryd.prog 17 #[.agg #[.slice aw nw cw, .slice ah nt ct], .int .i64 o, .agg #[.slice a0 n0 c0, .slice a1 n1 c1, .slice a2 n2 c2, .slice a3 n3 c3], tnV t] w fun e w' => NxtP w w' (nxtR l o s t) e := by
  have B0 := bxN_below w aw ah nw cw nt ct #[.slice a0 n0 c0, .slice a1 n1 c1, .slice a2 n2 c2, .slice a3 n3 c3] t
  have b0 := bxN_0 w aw ah nw cw nt ct #[.slice a0 n0 c0, .slice a1 n1 c1, .slice a2 n2 c2, .slice a3 n3 c3] t
  have b1 := bxN_1 w aw ah nw cw nt ct #[.slice a0 n0 c0, .slice a1 n1 c1, .slice a2 n2 c2, .slice a3 n3 c3] t
  have b3 := bxN_3 w aw ah nw cw nt ct #[.slice a0 n0 c0, .slice a1 n1 c1, .slice a2 n2 c2, .slice a3 n3 c3] t
  have h1 := h.below B0
  have CK := Mr.hid (both_any l o aw nw cw ah nt ct _ h1.E h1.I.1 h1.T)
  rw [he] at CK
  have ON : Hid (∀ W, Below w.heap.size w W → Calls Tryd.prog 30 #[.agg #[.slice aw nw cw, .slice ah nt ct], .int .i64 o, .agg #[.slice a0 n0 c0, .slice a1 n1 c1, .slice a2 n2 c2, .slice a3 n3 c3]] W fun e w' => e = .returned (.bool false) ∧ Below W.heap.size W w') := fun W hW => by
    have h2 := h.below hW
    have := one_any l o s aw ah nw cw nt ct a0 n0 c0 a1 n1 c1 a2 n2 c2 a3 n3 c3 W hc h2.I.1 h2.T h2.S0.1 h2.S1.1 h2.S2 h2.S3
    rw [hb] at this; exact this
  have x0 := cell_blk b0 0
  have x1 := cell_blk b0 1
  have hfin : Hid (∀ W, Below w.heap.size w W → NxtP w W (nxtR l o s t) (.returned (.tuple #[.agg #[.slice none 0 0, .slice none 0 0, .slice none 0 0, .slice none 0 0], .bool false, .int .i64 2]))) := fun W hW => by
    unfold nxtR; rw [if_neg (by rw [he]; simp), if_pos hb]; exact ⟨_, rfl, SvAt.nil W, hW⟩
  obtain ⟨th, ou, ad⟩ := t
  unfold tnV
  replace B0 := Mr.hid B0
  have b0' := Mr.hid b0
  have b1' := Mr.hid b1
  have b3' := Mr.hid b3
  clear h h1 b0 b1 b3 he hb hc
  unfold bxN bx1 at *
  go_enter Tryd.func17, Tryd.ntmps17
  go_wp2_with (first
    | (go_at_call 29; refine CK.out.mono ?_; clear CK; rintro e w2 ⟨rfl, B2⟩; have d0 := (B2.block _ (Array.getElem?_eq_some_iff.1 b0'.out).1).trans b0'.out; have d1 := (B2.block _ (Array.getElem?_eq_some_iff.1 b1'.out).1).trans b1'.out; have d3 := Mr.hid ((B2.block _ (Array.getElem?_eq_some_iff.1 b3'.out).1).trans b3'.out); have e0 := cell_blk d0 0; have e1 := cell_blk d0 1; have z0 := cell_blk d1 0; have z1 := cell_blk d1 1; have z2 := cell_blk d1 2; have z3 := cell_blk d1 3; have BB : Hid (Below w.heap.size w w2) := B0.out.trans (B2.mono B0.out.size); have O2 := Mr.hid (ON.out w2 BB.out); clear B2 b3' b1' b0' d1 d0)
    | (go_at_call 30; refine O2.out.mono ?_; clear O2; rintro e w3 ⟨rfl, B3⟩; have f3 := (B3.block _ (Array.getElem?_eq_some_iff.1 d3.out).1).trans d3.out; have y0 := cell_blk f3 0; have y1 := cell_blk f3 1; have y2 := cell_blk f3 2; have y3 := cell_blk f3 3; have ly := (Array.getElem?_eq_some_iff.1 f3).1; have fy : ∀ k, w3.frozen? ⟨w.heap.size + 1 + 1 + 1, k, none⟩ = false := fun k => fz_of f3; have BC : Hid (Below w.heap.size w w3) := BB.out.trans (B3.mono BB.out.size); clear B3 f3 d3))
  have BE := Mr.hid (emp4_below BC.out (show w.heap.size ≤ w.heap.size + 1 + 1 + 1 by omega))
  refine bodyPost_ret (v := .tuple #[.agg #[.slice none 0 0, .slice none 0 0, .slice none 0 0, .slice none 0 0], .bool false, .int .i64 2]) (by simp [results, Tryd.results17, go_sem, *]) rfl (hfin.out _ BE.out)
end Go.Proofs.YtmejblmeaipahaaDoor.Ts
/-
  TSO: the program's Next of a state that is one of the program's and the order's.
-/
namespace Go.Proofs.YtmejblmeaipahaaDoor.Ts
open Go.RowKit Mr
set_option linter.unusedVariables false
set_option linter.unusedSimpArgs false
set_option maxRecDepth 100000
set_option maxHeartbeats 16000000 in
theorem Next_ok (l : Lt) (o : Int) (s : Sv) (t : Tn) (aw ah a0 a1 a2 a3 : Option Addr) (nw cw nt ct n0 c0 n1 c1 n2 c2 n3 c3 : Nat) (w : World) (h : Nq w l s aw ah a0 a1 a2 a3 nw nt n0 n1 n2 n3) (he : bothE l o = 0) (hb : belB l o s = true) (hc : chkB l = true) (ho : ordB o = true) :
    Calls Tryd.prog 17 #[.agg #[.slice aw nw cw, .slice ah nt ct], .int .i64 o, .agg #[.slice a0 n0 c0, .slice a1 n1 c1, .slice a2 n2 c2, .slice a3 n3 c3], tnV t] w fun e w' => NxtP w w' (nxtR l o s t) e := by
  obtain ⟨hsh, htp⟩ := bel_of hb
  obtain ⟨k1, k2, k3⟩ := chk_len hc
  have hb10 := bel_bf hb
  have B0 := bxN_below w aw ah nw cw nt ct #[.slice a0 n0 c0, .slice a1 n1 c1, .slice a2 n2 c2, .slice a3 n3 c3] t
  have b0 := bxN_0 w aw ah nw cw nt ct #[.slice a0 n0 c0, .slice a1 n1 c1, .slice a2 n2 c2, .slice a3 n3 c3] t
  have b1 := bxN_1 w aw ah nw cw nt ct #[.slice a0 n0 c0, .slice a1 n1 c1, .slice a2 n2 c2, .slice a3 n3 c3] t
  have b2 := bxN_2 w aw ah nw cw nt ct #[.slice a0 n0 c0, .slice a1 n1 c1, .slice a2 n2 c2, .slice a3 n3 c3] t
  have b3 := bxN_3 w aw ah nw cw nt ct #[.slice a0 n0 c0, .slice a1 n1 c1, .slice a2 n2 c2, .slice a3 n3 c3] t
  have h1 := h.below B0
  have CK := Mr.hid (both_any l o aw nw cw ah nt ct _ h1.E h1.I.1 h1.T)
  rw [he] at CK
  have l0 := h.S0.1
  have l1 := h.S1.1
  have l2 := h.S2.1
  have l3 := h.S3.1
  have li := h.I.1
  have lt := h.T.1
  have s1 := hsh.w
  have s2 := hsh.r
  have s3 := hsh.p
  have s4 := hsh.b
  have e0 : n0 = nw := by omega
  have e1 : n1 = nt := by omega
  have e2 : nt = n2 := by omega
  have e3 : nt = n3 := by omega
  subst e0 e1 e2 e3
  have ON : Hid (∀ W, Below w.heap.size w W → Calls Tryd.prog 30 #[.agg #[.slice aw n0 cw, .slice ah n1 ct], .int .i64 o, .agg #[.slice a0 n0 c0, .slice a1 n1 c1, .slice a2 n1 c2, .slice a3 n1 c3]] W fun e w' => e = .returned (.bool true) ∧ Below W.heap.size W w') := fun W hW => by
    have h2 := h.below hW
    have := one_any l o s aw ah n0 cw n1 ct a0 n0 c0 a1 n1 c1 a2 n1 c2 a3 n1 c3 W hc h2.I.1 h2.T h2.S0.1 h2.S1.1 h2.S2 h2.S3
    rw [hb] at this; exact this
  have RD : Hid (∀ W, Below w.heap.size w W → Calls Tryd.prog 31 #[.agg #[.slice a0 n0 c0, .slice a1 n1 c1, .slice a2 n1 c2, .slice a3 n1 c3]] W fun e w' => ∃ cs, e = .returned (.agg cs) ∧ cs.size = 118 ∧ Enc cs s ∧ Below W.heap.size W w') := fun W hW => by
    have h2 := h.below hW
    exact read_any s a0 n0 c0 a1 c1 a2 c2 a3 c3 n1 W h2.S0 h2.S1 h2.S2 h2.S3 (by omega) (by omega) (by omega) hb10
  have NR : Hid (∀ W, Calls Tryd.prog 22 #[.agg #[.slice aw n0 cw, .slice ah n1 ct], .int .i64 o] W fun e w' => ∃ R, e = .returned (.pointer (some ⟨R, 0, none⟩)) ∧ w'.heap[R]? = some (.cells (rnV (.slice aw n0 cw) (.slice ah n1 ct) o) 84 (0, 0)) ∧ W.heap.size ≤ R ∧ Below W.heap.size W w') := fun W => newRunner_any aw ah n0 cw n1 ct o W
  have TU : Hid (∀ (R g : Nat) (W : World) (cs : Array Value), Ar W g cs → Enc cs s → W.heap[R]? = some (.cells (rnV (.slice aw n0 cw) (.slice ah n1 ct) o) 84 (0, 0)) → R ≠ g → Below w.heap.size w W → Calls Tryd.prog 24 #[.pointer (some ⟨R, 0, none⟩), .pointer (some ⟨g, 0, none⟩), tnV t] W fun e w' => e = .returned (.bool (act l o s t).isSome) ∧ (∃ cs', Ar w' g cs' ∧ Enc cs' (trn l o s t)) ∧ Fr W w' (fun k => k = g)) := fun R g W cs hA hE hR hne hW =>
    turn_any l _ R g o _ ah n1 ct cs W ⟨hA, hE, hc, hsh, htp, hR, h.T.below hW, hne⟩ t
  have hsn := trn_shp (o := o) (t := t) hsh
  have TO : Hid (∀ (g : Nat) (W : World) (cs : Array Value), Ar W g cs → Enc cs (trn l o s t) → Calls Tryd.prog 25 #[.pointer (some ⟨g, 0, none⟩), .agg #[.slice aw n0 cw, .slice ah n1 ct]] W fun e w' => ∃ v, e = .returned (.agg v) ∧ (∀ W', (∀ k, W.heap.size + 2 ≤ k → W'.heap[k]? = w'.heap[k]?) → SvAt W' v (trn l o s t) n0 n1 n1 n1) ∧ Below W.heap.size W w') := fun g W cs hA hE =>
    told_any _ g cs aw ah n0 cw n1 ct W hA hE (by omega) (by omega) (by omega) (by rw [hsn.w]; omega) (by rw [hsn.r]; omega) (by rw [hsn.p]; omega) (by rw [hsn.b]; omega) (trn_bf hb10)
  have hfin : Hid (∀ v W, SvAt W v (trn l o s t) n0 n1 n1 n1 → Below w.heap.size w W → NxtP w W (nxtR l o s t) (.returned (.tuple #[.agg v, .bool (act l o s t).isSome, .int .i64 0]))) := fun v W hv hW => by
    have en : nxtR l o s t = (trn l o s t, (act l o s t).isSome, 0) := by unfold nxtR; rw [if_neg (by rw [he]; simp), if_neg (by rw [hb]; simp)]
    rw [en]
    refine ⟨_, rfl, ?_, hW⟩
    dsimp only
    rw [hsn.w, hsn.r, hsn.p, hsn.b, ← li, ← lt]
    exact hv
  have hz := zero_z
  obtain ⟨zs, hzs⟩ : ∃ zs, zs = z118 := ⟨_, rfl⟩
  rw [← hzs] at hz
  have hzz : Hid (zs.size = 118) := by show _ = _; rw [hzs]; rfl
  have x0 := cell_blk b0 0
  have x1 := cell_blk b0 1
  generalize trn l o s t = ns at *
  generalize (act l o s t).isSome = nb at *
  obtain ⟨th, ou, ad⟩ := t
  unfold tnV at *
  replace B0 := Mr.hid B0
  have b0' := Mr.hid b0
  have b1' := Mr.hid b1
  have b2' := Mr.hid b2
  have b3' := Mr.hid b3
  replace hzs := Mr.hid hzs
  clear h h1 b0 b1 b2 b3 he hb hc ho hsh htp k1 k2 k3 hb10 l0 l1 l2 l3 li lt s1 s2 s3 s4 hsn
  unfold bxN bx1 at *
  go_enter Tryd.func17, Tryd.ntmps17
  go_upto_region 6 with (first
    | (go_at_call 29; refine CK.out.mono ?_; clear CK; rintro e w2 ⟨rfl, B2⟩; have d0 := (B2.block _ (Array.getElem?_eq_some_iff.1 b0'.out).1).trans b0'.out; have d1 := (B2.block _ (Array.getElem?_eq_some_iff.1 b1'.out).1).trans b1'.out; have d2 := Mr.hid ((B2.block _ (Array.getElem?_eq_some_iff.1 b2'.out).1).trans b2'.out); have d3 := Mr.hid ((B2.block _ (Array.getElem?_eq_some_iff.1 b3'.out).1).trans b3'.out); have e0 := cell_blk d0 0; have e1 := cell_blk d0 1; have z0 := cell_blk d1 0; have z1 := cell_blk d1 1; have z2 := cell_blk d1 2; have z3 := cell_blk d1 3; have BB : Hid (Below w.heap.size w w2) := B0.out.trans (B2.mono B0.out.size); have O2 := Mr.hid (ON.out w2 BB.out); replace d0 := Mr.hid d0; replace d1 := Mr.hid d1; clear B2 b3' b2' b1' b0')
    | (go_at_call 30; refine O2.out.mono ?_; clear O2; rintro e w3 ⟨rfl, B3⟩))
  clear e0 e1 z0 z1 z2 z3 x0 x1 ON
  have d0 := (B3.block _ (Array.getElem?_eq_some_iff.1 d0.out).1).trans d0.out
  have d1 := (B3.block _ (Array.getElem?_eq_some_iff.1 d1.out).1).trans d1.out
  have d2 := (B3.block _ (Array.getElem?_eq_some_iff.1 d2.out).1).trans d2.out
  have d3 := (B3.block _ (Array.getElem?_eq_some_iff.1 d3.out).1).trans d3.out
  have BC : Hid (Below w.heap.size w w3) := BB.out.trans (B3.mono BB.out.size)
  have R3 := Mr.hid (RD.out w3 BC.out)
  have z0 := cell_blk d1 0
  have z1 := cell_blk d1 1
  have z2 := cell_blk d1 2
  have z3 := cell_blk d1 3
  have lz := (Array.getElem?_eq_some_iff.1 d1).1
  replace d0 := Mr.hid d0
  replace d1 := Mr.hid d1
  replace d2 := Mr.hid d2
  replace d3 := Mr.hid d3
  clear RD B3 BB B0
  go_upto_region 7 with (first
    | (go_at_call 31; refine R3.out.mono ?_; clear R3; rintro e w4 ⟨cs, rfl, hcs, hE4, B4⟩; have hG := new_at w4 (.cells zs 62) _ rfl; replace B4 := Mr.hid B4; have szf : Hid ((Tryd.prog.info? 62).map (·.size) = some cs.size) := (by rw [hcs]; exact szz : _ = _); have hszf : Hid (zs.size = cs.size) := (by rw [hzz.out, hcs] : _ = _); have hfo := Mr.hid hE4.one; replace hE4 := Mr.hid hE4; replace hcs := Mr.hid hcs)
    | (refine wpList_store_row rfl 62 _ _ rfl w4.heap.size cs rfl rfl 62 zs hG szf.out hszf.out hfo.out ?_))
  have B5 : Below w4.heap.size w4 ((w4.alloc (.cells zs 62)).setRow w4.heap.size cs) := ⟨rfl, rfl, rfl, by simp, fun k hk => (setRow_other _ _ k _ (by omega)).trans (Below.heap_alloc _ _ _ hk)⟩
  have BW : Below w3.heap.size w3 ((w4.alloc (.cells zs 62)).setRow w4.heap.size cs) := B4.out.trans (B5.mono B4.out.size)
  have hA5 : Ar ((w4.alloc (.cells zs 62)).setRow w4.heap.size cs) w4.heap.size cs := ⟨setRow_heap _ w4.heap.size zs _ 62 _ hG, hcs.out⟩
  have hgl : Hid (w3.heap.size ≤ w4.heap.size) := B4.out.size
  have e0 := (BW.block _ (Array.getElem?_eq_some_iff.1 d0.out).1).trans d0.out
  have e2 := (BW.block _ (Array.getElem?_eq_some_iff.1 d2.out).1).trans d2.out
  have e3 := Mr.hid ((BW.block _ (Array.getElem?_eq_some_iff.1 d3.out).1).trans d3.out)
  have ld : Hid (w.heap.size + 1 + 1 + 1 < w3.heap.size) := (Array.getElem?_eq_some_iff.1 d3.out).1
  have B05 : Hid (Below w.heap.size w ((w4.alloc (.cells zs 62)).setRow w4.heap.size cs)) := BC.out.trans (BW.mono BC.out.size)
  clear B5 BW hG B4 z0 z1 z2 z3 lz d1 d0 d2 d3 BC szf hszf hfo
  generalize (w4.alloc (.cells zs 62)).setRow w4.heap.size cs = w5 at *
  have hgg : Hid (w.heap.size + 1 + 1 + 1 < w4.heap.size) := by have := ld.out; have := hgl.out; show _ < _; omega
  clear ld hgl
  generalize w4.heap.size = gg at *
  have x0 := cell_blk e0 0
  have x1 := cell_blk e0 1
  have u0 := cell_blk e2 0
  have u1 := cell_blk e2 1
  have u2 := cell_blk e2 2
  have l0 := (Array.getElem?_eq_some_iff.1 e0).1
  have l2 := (Array.getElem?_eq_some_iff.1 e2).1
  have lgg := (Array.getElem?_eq_some_iff.1 hA5.1).1
  replace e0 := Mr.hid e0
  replace e2 := Mr.hid e2
  replace hA5 := Mr.hid hA5
  have hBd : Hid (Below w5.heap.size w5 w5.drew) := (Below.refl _ _).drew
  go_region_held3 (fun W => W.cell? ⟨w.heap.size, 0, none⟩ = some (.slice aw n0 cw) ∧ W.cell? ⟨w.heap.size, 1, none⟩ = some (.slice ah n1 ct) ∧ W.cell? ⟨w.heap.size + 1 + 1, 0, none⟩ = some (.int .i64 th) ∧ W.cell? ⟨w.heap.size + 1 + 1, 1, none⟩ = some (.bool ou) ∧ W.cell? ⟨w.heap.size + 1 + 1, 2, none⟩ = some (.int .i64 ad)) (simp [*, go_sem])
    (first
      | (go_at_call 22; refine (NR.out _).mono ?_; clear NR; rintro e w6 ⟨R, rfl, hR, lR, B6⟩; have B56 : Hid (Below w5.heap.size w5 w6) := hBd.out.trans (B6.mono hBd.out.size); have v0 := (B56.out.cell (p := ⟨w.heap.size, 0, none⟩) l0).trans x0; have v1 := (B56.out.cell (p := ⟨w.heap.size, 1, none⟩) l0).trans x1; have v2 := (B56.out.cell (p := ⟨w.heap.size + 1 + 1, 0, none⟩) l2).trans u0; have v3 := (B56.out.cell (p := ⟨w.heap.size + 1 + 1, 1, none⟩) l2).trans u1; have v4 := (B56.out.cell (p := ⟨w.heap.size + 1 + 1, 2, none⟩) l2).trans u2; have T6 := Mr.hid (TU.out R gg w6 cs (hA5.out.below B56.out) hE4.out hR (by have e9 : w5.heap.size ≤ R := lR; omega) (B05.out.trans (B56.out.mono B05.out.size))); have lx6 := Nat.lt_of_lt_of_le l0 B56.out.size; have lx7 := Nat.lt_of_lt_of_le l2 B56.out.size; replace hR := Mr.hid hR; replace lR := Mr.hid lR; clear B6 TU)
      | (go_at_call 24; refine T6.out.mono ?_; clear T6; rintro e w7 ⟨rfl, D7, F7⟩; have n7 : ∀ k, k < w.heap.size + 1 + 1 + 1 + 1 → k < w6.heap.size → w7.heap[k]? = w6.heap[k]? := (fun k hk hl => F7.block k hl (by have := hgg.out; show ¬ k = gg; omega)); have q0 := (World.cell?_of_block (a := ⟨w.heap.size, 0, none⟩) (n7 w.heap.size (by omega) lx6)).trans v0; have q1 := (World.cell?_of_block (a := ⟨w.heap.size, 1, none⟩) (n7 w.heap.size (by omega) lx6)).trans v1; have q2 := (World.cell?_of_block (a := ⟨w.heap.size + 1 + 1, 0, none⟩) (n7 (w.heap.size + 1 + 1) (by omega) lx7)).trans v2; have q3 := (World.cell?_of_block (a := ⟨w.heap.size + 1 + 1, 1, none⟩) (n7 (w.heap.size + 1 + 1) (by omega) lx7)).trans v3; have q4 := (World.cell?_of_block (a := ⟨w.heap.size + 1 + 1, 2, none⟩) (n7 (w.heap.size + 1 + 1) (by omega) lx7)).trans v4; replace D7 := Mr.hid D7; replace F7 := Mr.hid F7; replace n7 := Mr.hid n7))
  obtain ⟨cs7, hA7, hE7⟩ := D7.out
  have B57 : Below w.heap.size w w7 := (B05.out.trans (B56.out.mono B05.out.size)).trans (F7.out.below (fun k hk => by have := hgg.out; show w.heap.size ≤ k; omega) (by have := (B05.out.trans (B56.out.mono B05.out.size)).size; omega))
  have f3 := (n7.out (w.heap.size + 1 + 1 + 1) (by omega) (by have := B56.out.size; have := (Array.getElem?_eq_some_iff.1 e3.out).1; omega)).trans ((B56.out.block _ (Array.getElem?_eq_some_iff.1 e3.out).1).trans e3.out)
  have T7 := Mr.hid (TO.out gg w7 cs7 hA7 hE7)
  have f3' : Hid (w7.heap[w.heap.size + 1 + 1 + 1]? = some (.cells #[.slice none 0 0, .slice none 0 0, .slice none 0 0, .slice none 0 0] 32 (0, 0))) := f3
  have lf : Hid (w.heap.size + 1 + 1 + 1 < w7.heap.size) := (Array.getElem?_eq_some_iff.1 f3).1
  have lw0 : w.heap.size < w7.heap.size := by have := lf.out; omega
  have B7d := Mr.hid B57
  have k0 : w7.cell? ⟨w.heap.size, 0, none⟩ = some (.slice aw n0 cw) := q0
  have k1 : w7.cell? ⟨w.heap.size, 1, none⟩ = some (.slice ah n1 ct) := q1
  clear q0 q1 q2 q3 q4 v0 v1 v2 v3 v4 u0 u1 u2 x0 x1 l0 l2 lx6 lx7 D7 F7 n7 hA7 hE7 B57 f3 B56 hR lR hA5 e0 e2 e3 hBd TO
  go_wp2_with (go_at_call 25; refine T7.out.mono ?_; clear T7; rintro e w9 ⟨v, rfl, D1, D2⟩; obtain ⟨v1, v2, v3, v4, v5, v6, v7, v8, rfl, D1'⟩ := (D1 w9 (fun _ _ => rfl)).ex; have f1 := (D2.block _ (Array.getElem?_eq_some_iff.1 f3'.out).1).trans f3'.out; have y0 := cell_blk f1 0; have y1 := cell_blk f1 1; have y2 := cell_blk f1 2; have y3 := cell_blk f1 3; have ly := (Array.getElem?_eq_some_iff.1 f1).1; have fy : ∀ j, w9.frozen? ⟨w.heap.size + 1 + 1 + 1, j, none⟩ = false := fun j => fz_of f1; have B9 : Hid (Below w.heap.size w w9) := B7d.out.trans (D2.mono B7d.out.size); replace D1 := Mr.hid D1; clear D1' D2 f1)
  have lw9 := lf.out
  have BE : Hid (Below w.heap.size w ((((w9.setCell ⟨w.heap.size + 1 + 1 + 1, 0, none⟩ (.slice v1 n0 v2)).setCell ⟨w.heap.size + 1 + 1 + 1, 1, none⟩ (.slice v3 n1 v4)).setCell ⟨w.heap.size + 1 + 1 + 1, 2, none⟩ (.slice v5 n1 v6)).setCell ⟨w.heap.size + 1 + 1 + 1, 3, none⟩ (.slice v7 n1 v8))) := (((B9.out.setCell (p := ⟨w.heap.size + 1 + 1 + 1, 0, none⟩) (by show w.heap.size ≤ w.heap.size + 1 + 1 + 1; omega) _).setCell (p := ⟨w.heap.size + 1 + 1 + 1, 1, none⟩) (by show w.heap.size ≤ w.heap.size + 1 + 1 + 1; omega) _).setCell (p := ⟨w.heap.size + 1 + 1 + 1, 2, none⟩) (by show w.heap.size ≤ w.heap.size + 1 + 1 + 1; omega) _).setCell (p := ⟨w.heap.size + 1 + 1 + 1, 3, none⟩) (by show w.heap.size ≤ w.heap.size + 1 + 1 + 1; omega) _
  have DE := Mr.hid (D1.out ((((w9.setCell ⟨w.heap.size + 1 + 1 + 1, 0, none⟩ (.slice v1 n0 v2)).setCell ⟨w.heap.size + 1 + 1 + 1, 1, none⟩ (.slice v3 n1 v4)).setCell ⟨w.heap.size + 1 + 1 + 1, 2, none⟩ (.slice v5 n1 v6)).setCell ⟨w.heap.size + 1 + 1 + 1, 3, none⟩ (.slice v7 n1 v8)) (fun j hj => by
    have hj' : j ≠ w.heap.size + 1 + 1 + 1 := by omega
    exact (Below.heap_setCell _ _ _ _ hj').trans ((Below.heap_setCell _ _ _ _ hj').trans ((Below.heap_setCell _ _ _ _ hj').trans (Below.heap_setCell _ _ _ _ hj')))))
  refine bodyPost_ret (v := .tuple #[.agg #[.slice v1 n0 v2, .slice v3 n1 v4, .slice v5 n1 v6, .slice v7 n1 v8], .bool nb, .int .i64 0]) (by simp [results, Tryd.results17, go_sem, *]) rfl (hfin.out _ _ DE.out BE.out)
end Go.Proofs.YtmejblmeaipahaaDoor.Ts
