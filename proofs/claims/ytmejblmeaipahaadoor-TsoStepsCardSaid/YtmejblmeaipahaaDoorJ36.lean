import Derived.Test.YtmejblmeaipahaaDoorJ35
import Derived.Test.YtmejblmeaipahaaDoorJ05
import Derived.Test.YtmejblmeaipahaaDoorJ06
/-
  TSO: the program's read.
-/
namespace Go.Proofs.YtmejblmeaipahaaDoor.Ts
open Go.RowKit Mr
set_option linter.unusedVariables false
set_option linter.unusedSimpArgs false
set_option maxRecDepth 100000
set_option maxHeartbeats 16000000 in
theorem read_any (s : Sv) (a0 : Option Addr) (n0 k0 : Nat) (a1 : Option Addr) (k1 : Nat) (a2 : Option Addr) (k2 : Nat) (a3 : Option Addr) (k3 nt : Nat) (w : World) (h0 : IsAt w a0 n0 s.ws) (h1 : RgAt w a1 nt s.rg) (h2 : IsAt w a2 nt s.pl) (h3 : BfAt w a3 nt s.bf) (h6 : n0 ≤ 6) (h01 : 1 ≤ n0) (h4 : nt ≤ 4) (hbb : ∀ b ∈ s.bf, b.length ≤ 10) :
    Calls Tryd.prog 31 #[.agg #[.slice a0 n0 k0, .slice a1 nt k1, .slice a2 nt k2, .slice a3 nt k3]] w fun e w' => ∃ cs, e = .returned (.agg cs) ∧ cs.size = 118 ∧ Enc cs s ∧ Below w.heap.size w w' := by
  have hz := zero_z
  obtain ⟨zs, hzs⟩ : ∃ zs, zs = z118 := ⟨_, rfl⟩
  rw [← hzs] at hz
  have hsz : zs.size = 118 := by rw [hzs]; rfl
  obtain ⟨vs, hvs⟩ : ∃ vs : Array Value, vs = #[.slice a0 n0 k0, .slice a1 nt k1, .slice a2 nt k2, .slice a3 nt k3] := ⟨_, rfl⟩
  obtain ⟨g, q, rfl, hg, hc⟩ := h0.2.resolve_left (by intro e; have := h0.1; rw [e] at this; simp at this; omega)
  have hl := h0.1
  have B1 : Below w.heap.size w (((w.alloc (.cells vs 32)).alloc (.cells zs 62)).alloc (.cells zs 62)) := (((Below.refl _ _).alloc (Nat.le_refl _) _).alloc (by simp) _).alloc (by simp; omega) _
  have hb0 : (((w.alloc (.cells vs 32)).alloc (.cells zs 62)).alloc (.cells zs 62)).heap[w.heap.size]? = some (.cells vs 32 (0, 0)) := (Lib.alloc_old _ _ _ (by simp; omega)).trans ((Lib.alloc_old _ _ _ (by simp)).trans (new_at _ _ _ rfl))
  have hb1 : (((w.alloc (.cells vs 32)).alloc (.cells zs 62)).alloc (.cells zs 62)).heap[w.heap.size + 1]? = some (.cells zs 62 (0, 0)) := (Lib.alloc_old _ _ _ (by simp)).trans (new_at _ _ _ (by simp))
  have hb2 : (((w.alloc (.cells vs 32)).alloc (.cells zs 62)).alloc (.cells zs 62)).heap[w.heap.size + 1 + 1]? = some (.cells zs 62 (0, 0)) := new_at _ _ _ (by simp)
  have c0 := cell_blk hb0 0
  have hA2 : Ar (((w.alloc (.cells vs 32)).alloc (.cells zs 62)).alloc (.cells zs 62)) (w.heap.size + 1 + 1) zs := ⟨hb2, hsz⟩
  rw [show vs[0]? = some (.slice (some ⟨g, q, none⟩) n0 k0) by rw [hvs]; rfl] at c0
  have hfa : Hid (zs.toList.take 0 ++ intsV s.ws ++ zs.toList.drop (0 + (intsV s.ws).length) = (fstA s.ws).toList) := by
    show _ = _
    rw [hzs]; simp [fstA, intsV]
  have hfs : (fstA s.ws).size = 118 := fstA_size _ (by omega)
  have hfe : Hid (Enc (fstA s.ws) (rdS s nt 0)) := by
    show Enc _ _
    rw [rdS_zero]
    exact fstA_enc ⟨s.ws, List.replicate nt []⟩ (by show s.ws.length ≤ 6; omega) (by simp; omega)
  have WD := Mr.hid (fun (W : World) (h : Ar W (w.heap.size + 1 + 1) zs) => words_any (w.heap.size + 1 + 1) zs W h)
  have hrun : Hid (∀ (W : World) (ty : TypeId), Below w.heap.size w W → W.heap[w.heap.size + 1 + 1]? = some (.cells zs 62 (0, 0)) → (Builtin.copy_ #[22, 22] ty #[.slice (some ⟨w.heap.size + 1 + 1, 0, none⟩) 6 118, .slice (some ⟨g, q, none⟩) n0 k0]).run Tryd.prog W = .ok (goInt ((n0 : Nat) : Int)) (W.setRow (w.heap.size + 1 + 1) (fstA s.ws))) := fun W ty hW hb => by
    obtain ⟨ii, hii, hz, hs1, hby⟩ := info_i
    have hlen : (intsV s.ws).length = n0 := by simp [intsV]; omega
    have h := run_copy_row (P := Tryd.prog) W 22 22 ty 3 (w.heap.size + 1 + 1) 0 6 118 ⟨g, q, none⟩ n0 k0 zs 62 (intsV s.ws) Tryd.underlying22 (by rw [hii]; simp [hs1]) hb (by rw [hlen]; show _ = min n0 6; omega) (fun j v hv => by
      rw [add1]
      simp only [intsV, List.getElem?_map] at hv
      cases hx : s.ws[j]? with
      | none => rw [hx] at hv; cases hv
      | some y => rw [hx] at hv; cases hv; exact (hW.cell (p := ⟨g, q + j, none⟩) hg).trans (hc j y hx)) (by rw [hlen]; omega) (intsV_one _)
    rw [hlen] at h
    have e2 := hfa.out
    rw [hlen] at e2
    rw [e2] at h
    exact h
  replace hzs := Mr.hid hzs
  replace hl := Mr.hid hl
  replace B1 := Mr.hid B1
  replace hA2 := Mr.hid hA2
  replace h1 := Mr.hid h1
  replace h2 := Mr.hid h2
  replace h3 := Mr.hid h3
  replace hbb := Mr.hid hbb
  clear h0 hc hfa hg
  go_enter Tryd.func31, Tryd.ntmps31
  go_upto_region 2 with fail
  rw [← hvs]
  generalize (((w.alloc (.cells vs 32)).alloc (.cells zs 62)).alloc (.cells zs 62)) = w1 at *
  refine wp_region_held_drew (S := (fun W => W.cell? ⟨w.heap.size, 0, none⟩ = some (.slice (some ⟨g, q, none⟩) n0 k0))) (by kernel_rfl) c0 (fun hHeld => ?_)
  try simp only [Act.put, List.setIfInBounds_toArray, List.set_cons_zero, List.set_cons_succ]
  refine wpAnyH_take (i := 1) (oi := (⟨_, _, _, _, _, _⟩ : Oper)) (v := ?_) rfl (by kernel_rfl) (by kernel_rfl) (by kernel_rfl) (fun _ _ _ h => h) (Or.inl ⟨by rfl, ?_⟩) (by assumption) ?_
  rotate_left
  · intro w9 hSw
    (try dsimp only at hSw)
    go_simp
    all_goals (with_reducible rfl)
  try simp only [Act.put, List.setIfInBounds_toArray, List.set_cons_zero, List.set_cons_succ]
  refine wpAnyH_take (i := 2) (oi := (⟨_, _, _, _, _, _⟩ : Oper)) (v := ?_) rfl (by kernel_rfl) (by kernel_rfl) (by kernel_rfl) (fun _ _ _ h => h) (Or.inl ⟨by rfl, ?_⟩) (by assumption) ?_
  rotate_left
  · intro w9 hSw
    (try dsimp only at hSw)
    go_simp
    all_goals (with_reducible rfl)
  try simp only [Act.put, List.setIfInBounds_toArray, List.set_cons_zero, List.set_cons_succ]
  refine wpAnyH_ready (rs := [0]) (by kernel_rfl) (by simp) ?_
  refine AllReadyH.cons (o := (⟨_, _, _, _, _, _⟩ : Oper)) rfl (fun K hK => ?_) (AllReadyH.nil)
  go_simp
  go_at_call 35
  refine (WD.out _ (hA2.out.below (Below.refl _ _).drew)).mono ?_
  clear WD
  rintro e w9 ⟨rfl, hw9⟩
  obtain rfl := hw9.symm
  try (go_wp2_with fail)
  refine hK.out _ _ c0 (fun hHeld9 => ?_)
  clear hK K hHeld
  have hHeld := hHeld9
  clear hHeld9
  try simp only [Act.put, List.setIfInBounds_toArray, List.set_cons_zero, List.set_cons_succ]
  refine wpAnyH_ready (rs := [3]) (by kernel_rfl) (by simp) ?_
  refine AllReadyH.cons (o := (⟨_, _, _, _, _, _⟩ : Oper)) rfl (fun K hK => ?_) (AllReadyH.nil)
  refine wp_copyT _ _ 22 22 rfl _ _ rfl rfl _ _ (hrun.out w1.drew _ B1.out.drew hb2) ?_
  have c9 : (w1.drew.setRow (w.heap.size + 1 + 1) (fstA s.ws)).cell? ⟨w.heap.size, 0, none⟩ = some (.slice (some ⟨g, q, none⟩) n0 k0) := (World.cell?_of_block (a := ⟨w.heap.size, 0, none⟩) (setRow_other w1.drew (w.heap.size + 1 + 1) w.heap.size _ (by omega))).trans c0
  refine hK.out _ _ c9 (fun hHeld9 => ?_)
  clear hK K hHeld
  have hHeld := hHeld9
  clear hHeld9
  try simp only [Act.put, List.setIfInBounds_toArray, List.set_cons_zero, List.set_cons_succ]
  refine wpAnyH_done (by kernel_rfl) ?_ _
  have hB3 : Below w.heap.size w (w1.drew.setRow (w.heap.size + 1 + 1) (fstA s.ws)) := ⟨B1.out.os, B1.out.tape, B1.out.output, by have := B1.out.size; simpa using this, fun k hk => (setRow_other w1.drew (w.heap.size + 1 + 1) k _ (by omega)).trans (B1.out.block k hk)⟩
  have R0 : Hid (Rdv w (w1.drew.setRow (w.heap.size + 1 + 1) (fstA s.ws)) (rdS s nt 0) vs zs) := ⟨(setRow_other w1.drew (w.heap.size + 1 + 1) w.heap.size _ (by omega)).trans hb0, (setRow_other w1.drew (w.heap.size + 1 + 1) (w.heap.size + 1) _ (by omega)).trans hb1, ⟨_, ⟨setRow_heap w1.drew (w.heap.size + 1 + 1) zs _ 62 _ hb2, hfs⟩, hfe.out⟩, hB3⟩
  clear hrun hB3 c9 hHeld hb1 hb2 hb0 hA2 B1 c0 hfe hfs
  generalize w1.drew.setRow (w.heap.size + 1 + 1) (fstA s.ws) = w3 at *
  have p0 : w3.heap[w.heap.size]? = some (.cells #[.slice (some ⟨g, q, none⟩) n0 k0, .slice a1 nt k1, .slice a2 nt k2, .slice a3 nt k3] 32 (0, 0)) := by rw [← hvs]; exact R0.out.p
  have y1 := cell_blk p0 1
  have l0 := (Array.getElem?_eq_some_iff.1 p0).1
  clear p0
  generalize hbx0 : w.heap.size + 1 + 1 = bx
  have hbx : Hid (bx = w.heap.size + 2) := by show _ = _; omega
  clear hbx0
  replace hvs := Mr.hid hvs
  have hlr := Mr.hid h1.out.1
  have hlp := Mr.hid h2.out.1
  have hlb := Mr.hid h3.out.1
  go_upto_region 4 with fail
  clear y1 l0
  go_loopg [15] nt (fun gk s15 wr => ∃ i : Nat, s15 = .int .i64 (i : Int) ∧ i + gk = nt ∧ Rdv w wr (rdS s nt i) vs zs)
  case atStart => exact ⟨0, rfl, by omega, R0.out⟩
  case round =>
    obtain ⟨i, rfl, hi, hR⟩ := hrel
    clear R0
    by_cases hlt : i < nt
    · obtain ⟨r, hr⟩ : ∃ r, s.rg[i]? = some r := ⟨_, List.getElem?_eq_getElem (by have := hlr.out; omega)⟩
      obtain ⟨pc, hpc⟩ : ∃ r, s.pl[i]? = some r := ⟨_, List.getElem?_eq_getElem (by have := hlp.out; omega)⟩
      obtain ⟨b, hb⟩ : ∃ r, s.bf[i]? = some r := ⟨_, List.getElem?_eq_getElem (by have := hlb.out; omega)⟩
      obtain ⟨g1, q1, rfl, hg1, hc1⟩ := h1.out.2.resolve_left (by intro e; rw [e] at hr; simp at hr)
      obtain ⟨g2, q2, rfl, hg20, hc2⟩ := h2.out.2.resolve_left (by intro e; rw [e] at hpc; simp at hpc)
      obtain ⟨g3, q3, ab, nb, cb, rfl, hg30, hc3, hnb, hP0⟩ := h3.out.at hb
      obtain ⟨m00, m10, m20, m30⟩ := hc1 i r hr
      have m0 := (hR.B.cell (p := ⟨g1, q1 + i * 4, none⟩) hg1).trans m00
      have m1 := (hR.B.cell (p := ⟨g1, q1 + i * 4 + 1, none⟩) hg1).trans m10
      have m2 := (hR.B.cell (p := ⟨g1, q1 + i * 4 + 2, none⟩) hg1).trans m20
      have m3 := (hR.B.cell (p := ⟨g1, q1 + i * 4 + 3, none⟩) hg1).trans m30
      have m4 := (hR.B.cell (p := ⟨g2, q2 + i, none⟩) hg20).trans (hc2 i pc hpc)
      replace hg1 := Nat.lt_of_lt_of_le hg1 hR.B.size
      have hg2 := Nat.lt_of_lt_of_le hg20 hR.B.size
      have hc2' := Mr.hid (hc2 i pc hpc)
      have hc3' := Mr.hid hc3
      have hP0' := Mr.hid hP0
      have hnb' := Mr.hid hnb
      clear m00 m10 m20 m30 hc3 hP0
      have hlI : (i : Int) < (nt : Int) := by omega
      have dl : decide ((i : Int) < (nt : Int)) = true := by simpa using hlI
      have hw : IntKind.i64.wrap ((i : Int) + 1) = (i : Int) + 1 := i64x _ (by omega) (by omega)
      have hi' := Mr.hid hi
      have hr' := Mr.hid hr
      have hpc' := Mr.hid hpc
      have hb' := Mr.hid hb
      have hlt' := Mr.hid hlt
      obtain ⟨r0, r1, r2, r3⟩ := r
      dsimp only at m0 m1 m2 m3
      clear hc1 hc2 hr hpc hb hi hlt
      go_upto_region 6 with fail
      have RA := Mr.hid (hR.below ((Below.refl _ _).alloc (Nat.le_refl _) (.cells #[.int .i64 r0, .int .i64 r1, .int .i64 r2, .int .i64 r3] 67)))
      have t5 := new_at wr (.cells #[.int .i64 r0, .int .i64 r1, .int .i64 r2, .int .i64 r3] 67) _ rfl
      have m4' := ((Below.refl _ wr).alloc (Nat.le_refl _) (.cells #[.int .i64 r0, .int .i64 r1, .int .i64 r2, .int .i64 r3] 67)).cell (p := ⟨g2, q2 + i, none⟩) hg2 |>.trans m4
      have hg2' := Nat.lt_of_lt_of_le hg2 ((Below.refl _ wr).alloc (Nat.le_refl _) (.cells #[.int .i64 r0, .int .i64 r1, .int .i64 r2, .int .i64 r3] 67)).size
      clear m0 m1 m2 m3 m4 hg1 hg2 hR
      have RG := Mr.hid (fun (W : World) (cs : Array Value) (h : Ar W bx cs) => regs_any bx i cs W h (by have := hlt'.out; omega))
      generalize (wr.alloc (.cells #[.int .i64 r0, .int .i64 r1, .int .i64 r2, .int .i64 r3] 67)) = wa at *
      obtain ⟨cs, hA, hE⟩ := RA.out.a
      rw [← hbx.out] at hA
      have hcl : cs.size = 118 := hE.1
      have hrun : Hid (∀ (W : World) (ty : TypeId), W.heap[bx]? = some (.cells cs 62 (0, 0)) → W.heap[wr.heap.size]? = some (.cells #[.int .i64 r0, .int .i64 r1, .int .i64 r2, .int .i64 r3] 67 (0, 0)) → (Builtin.copy_ #[22, 22] ty #[.slice (some ⟨bx, 6 + i * 4, none⟩) 4 (118 - (6 + i * 4)), .slice (some ⟨wr.heap.size, 0, none⟩) 4 4]).run Tryd.prog W = .ok (goInt 4) (W.setRow bx (rgA cs (6 + i * 4) ⟨r0, r1, r2, r3⟩))) := fun W ty hb hs => by
        obtain ⟨ii, hii, hz, hs1, hby⟩ := info_i
        exact run_copy_row (P := Tryd.prog) W 22 22 ty 3 bx (6 + i * 4) 4 (118 - (6 + i * 4)) ⟨wr.heap.size, 0, none⟩ 4 4 cs 62 (rgL ⟨r0, r1, r2, r3⟩) Tryd.underlying22 (by rw [hii]; simp [hs1]) hb rfl (fun j v hv => by
          rw [add1, cell_blk hs, Nat.zero_add]
          have hj4 : j < 4 := (List.getElem?_eq_some_iff.1 hv).1
          match j, hj4 with
          | 0, _ => exact hv
          | 1, _ => exact hv
          | 2, _ => exact hv
          | 3, _ => exact hv) (by have := hlt'.out; show 6 + i * 4 + 4 ≤ cs.size; omega) (by intro v hv; simp [rgL] at hv; rcases hv with rfl | rfl | rfl | rfl <;> rfl)
      have hA' := Mr.hid hA
      have hE' := Mr.hid hE
      clear hA hE hcl
      refine wp_region_held_drew (S := (fun W => True)) (by kernel_rfl) trivial (fun hHeld => ?_)
      try simp only [Act.put, List.setIfInBounds_toArray, List.set_cons_zero, List.set_cons_succ]
      refine wpAnyH_take (i := 0) (oi := (⟨_, _, _, _, _, _⟩ : Oper)) (v := ?_) rfl (by kernel_rfl) (by kernel_rfl) (by kernel_rfl) (fun _ _ _ h => h) (Or.inl ⟨by rfl, ?_⟩) (by assumption) ?_
      rotate_left
      · intro w9 hSw
        (try dsimp only at hSw)
        go_simp
        all_goals (with_reducible rfl)
      try simp only [Act.put, List.setIfInBounds_toArray, List.set_cons_zero, List.set_cons_succ]
      refine wpAnyH_take (i := 2) (oi := (⟨_, _, _, _, _, _⟩ : Oper)) (v := ?_) rfl (by kernel_rfl) (by kernel_rfl) (by kernel_rfl) (fun _ _ _ h => h) (Or.inl ⟨by rfl, ?_⟩) (by assumption) ?_
      rotate_left
      · intro w9 hSw
        (try dsimp only at hSw)
        go_simp
        all_goals (with_reducible rfl)
      try simp only [Act.put, List.setIfInBounds_toArray, List.set_cons_zero, List.set_cons_succ]
      refine wpAnyH_ready (rs := [1]) (by kernel_rfl) (by simp) ?_
      refine AllReadyH.cons (o := (⟨_, _, _, _, _, _⟩ : Oper)) rfl (fun K hK => ?_) (AllReadyH.nil)
      go_simp
      go_at_call 45
      refine (RG.out _ cs (hA'.out.below (Below.refl _ _).drew)).mono ?_
      rintro e w9 ⟨rfl, hw9⟩
      obtain rfl := hw9.symm
      try (go_wp2_with fail)
      refine hK.out _ _ trivial (fun hHeld9 => ?_)
      clear hK K hHeld
      have hHeld := hHeld9
      clear hHeld9
      try simp only [Act.put, List.setIfInBounds_toArray, List.set_cons_zero, List.set_cons_succ]
      refine wpAnyH_ready (rs := [3]) (by kernel_rfl) (by simp) ?_
      refine AllReadyH.cons (o := (⟨_, _, _, _, _, _⟩ : Oper)) rfl (fun K hK => ?_) (AllReadyH.nil)
      refine wp_copyT _ _ 22 22 rfl _ _ rfl rfl _ _ (hrun.out wa.drew _ hA'.out.1 t5) ?_
      refine hK.out _ _ trivial (fun hHeld9 => ?_)
      clear hK K hHeld
      have hHeld := hHeld9
      clear hHeld9
      try simp only [Act.put, List.setIfInBounds_toArray, List.set_cons_zero, List.set_cons_succ]
      refine wpAnyH_done (by kernel_rfl) ?_ _
      have R6 : Rdv w (wa.drew.setRow bx (rgA cs (6 + i * 4) ⟨r0, r1, r2, r3⟩)) { rdS s nt i with rg := (rdS s nt i).rg.set i ⟨r0, r1, r2, r3⟩ } vs zs := by
        refine (RA.out.below (Below.refl _ _).drew).fr ⟨rfl, rfl, rfl, by simp, fun k hk hne => setRow_other wa.drew bx k _ (by rw [hbx.out]; exact hne)⟩ ⟨_, ⟨by rw [← hbx.out]; exact setRow_heap wa.drew bx cs _ 62 _ hA'.out.1, ?_⟩, hE'.out.regs _ (by simp only [rdS, List.length_append, List.length_take, List.length_replicate]; have := hlt'.out; have := hlr.out; omega) (by have := hlt'.out; omega)⟩
        exact (hE'.out.regs ⟨r0, r1, r2, r3⟩ (by simp only [rdS, List.length_append, List.length_take, List.length_replicate]; have := hlt'.out; have := hlr.out; omega) (by have := hlt'.out; omega)).1
      clear hrun t5 m4' hA' hE' RA RG hHeld hg2'
      generalize wa.drew.setRow bx (rgA cs (6 + i * 4) ⟨r0, r1, r2, r3⟩) = w6 at *
      have hvs2 := hvs.out
      have p6 : w6.heap[w.heap.size]? = some (.cells #[.slice (some ⟨g, q, none⟩) n0 k0, .slice (some ⟨g1, q1, none⟩) nt k1, .slice (some ⟨g2, q2, none⟩) nt k2, .slice (some ⟨g3, q3, none⟩) nt k3] 32 (0, 0)) := by rw [← hvs2]; exact R6.p
      clear hvs2
      have y2 := cell_blk p6 2
      have l0 := (Array.getElem?_eq_some_iff.1 p6).1
      have m5 := (R6.B.cell (p := ⟨g2, q2 + i, none⟩) hg20).trans hc2'.out
      have lg2 := Nat.lt_of_lt_of_le hg20 R6.B.size
      clear p6
      obtain ⟨cs6, hA6, hE6⟩ := R6.a
      rw [← hbx.out] at hA6
      have PL := Mr.hid (fun (W : World) (h : Ar W bx cs6) => place_any bx i cs6 W h (by have := hlt'.out; omega))
      have lbx := (Array.getElem?_eq_some_iff.1 hA6.1).1
      have fbx : ∀ j, w6.frozen? ⟨bx, j, none⟩ = false := fun j => by unfold World.frozen?; rw [hA6.1]; rfl
      have hA6' := Mr.hid hA6
      have hE6' := Mr.hid hE6
      have R6' := Mr.hid R6
      have cbx : w6.cell? ⟨bx, 22 + i, none⟩ = some (.int .i64 0) := (cell_blk hA6.1 _).trans (hE6.plc (mid_get _ _ _ _ (by have := hlp.out; have := hlt'.out; omega) hlt'.out) (by have := hlt'.out; omega))
      have n2 : ¬ g2 = bx := by have := hbx.out; omega
      have n2' : ¬ bx = g2 := by have := hbx.out; omega
      have n3 : ¬ w.heap.size = bx := by have := hbx.out; omega
      have n3' : ¬ bx = w.heap.size := by have := hbx.out; omega
      clear hA6 hE6 R6
      go_upto_region 7 with fail
      go_region_held3 (fun W => W.cell? ⟨w.heap.size, 2, none⟩ = some (.slice (some ⟨g2, q2, none⟩) nt k2) ∧ W.cell? ⟨g2, q2 + i, none⟩ = some (.int .i64 pc)) (simp [*, go_sem])
        (first | (go_at_call 40; refine (PL.out _ (hA6'.out.below (Below.refl _ _).drew)).mono ?_; rintro e w9 ⟨rfl, hw9⟩; obtain rfl := hw9.symm))
      have R7 : Rdv w (w6.setCell ⟨bx, 22 + i, none⟩ (.int .i64 pc)).drew (rdI s nt i ⟨r0, r1, r2, r3⟩ pc (b.take 0)) vs zs := by
        have hi4 : i < 4 := by have := hlt'.out; omega
        have hE7 := hE6'.out.set (i := 22 + i) (v := pc) (by omega) (fun j hj => enc_pl _ j i pc (by simp only [rdS, List.length_append, List.length_take, List.length_replicate]; have := hlt'.out; have := hlp.out; omega) hi4)
        refine Rdv.below (Rdv.fr R6'.out ((Fr.refl _ _).setCell ⟨bx, 22 + i, none⟩ _ (.inl hbx.out)) ⟨_, by rw [← hbx.out]; exact hA6'.out.set _ _, ?_⟩) (Below.refl _ _).drew
        rw [rdI_zero s nt i _ pc b (by have := hlb.out; have := hlt'.out; omega) hlt'.out]
        exact hE7
      have B7 := Mr.hid R7.B
      clear hA6' hE6' R6' PL cbx fbx lbx y2 m5 lg2 l0 n2 n2'
      try clear n3 n3'
      generalize (w6.setCell ⟨bx, 22 + i, none⟩ (.int .i64 pc)).drew = w7 at *
      have hvs2 := hvs.out
      have p7 : w7.heap[w.heap.size]? = some (.cells #[.slice (some ⟨g, q, none⟩) n0 k0, .slice (some ⟨g1, q1, none⟩) nt k1, .slice (some ⟨g2, q2, none⟩) nt k2, .slice (some ⟨g3, q3, none⟩) nt k3] 32 (0, 0)) := by rw [← hvs2]; exact R7.p
      clear hvs2
      have y3 := cell_blk p7 3
      have l0 := (Array.getElem?_eq_some_iff.1 p7).1
      have m6 := (B7.out.cell (p := ⟨g3, q3 + i, none⟩) hg30).trans hc3'.out
      have lg3 := Nat.lt_of_lt_of_le hg30 B7.out.size
      clear p7
      replace R7 := Mr.hid R7
      go_upto_region 9 with fail
      clear y3 l0 m6 lg3 dl
      have hb10 := Mr.hid (hbb.out b (List.mem_of_getElem? hb'.out))
      generalize hwr : wr = wro at *
      clear hwr
      go_loopg [38] nb (fun gk9 s38 wq => ∃ k : Nat, s38 = .int .i64 (k : Int) ∧ k + gk9 = nb ∧ Rdv w wq (rdI s nt i ⟨r0, r1, r2, r3⟩ pc (b.take k)) vs zs)
      case atStart => exact ⟨0, rfl, by omega, R7.out⟩
      case round =>
        obtain ⟨k, rfl, hk, hRk⟩ := hrel
        clear R7 B7
        by_cases hkl : k < nb
        · have hkx : k < b.length := by have := hnb'.out; omega
          obtain ⟨y, hy⟩ : ∃ y, b[k]? = some y := ⟨b[k], List.getElem?_eq_getElem hkx⟩
          obtain ⟨f1, o1, rfl, hf1, hcc⟩ := hP0'.out.2.resolve_left (by intro e; rw [e] at hkx; simp at hkx)
          obtain ⟨u0, u1⟩ := hcc k y hy
          replace u0 := (hRk.B.cell (p := ⟨f1, o1 + k * 2, none⟩) hf1).trans u0
          replace u1 := (hRk.B.cell (p := ⟨f1, o1 + k * 2 + 1, none⟩) hf1).trans u1
          have lf := Nat.lt_of_lt_of_le hf1 hRk.B.size
          have hty := Mr.hid (take_succ_of hy)
          have hkI : (k : Int) < (nb : Int) := by omega
          have dk : decide ((k : Int) < (nb : Int)) = true := by simpa using hkI
          have hwk : IntKind.i64.wrap ((k : Int) + 1) = (k : Int) + 1 := i64x _ (by have := hb10.out; omega) (by have := hb10.out; omega)
          have hk' := Mr.hid hk
          obtain ⟨ad, vl⟩ := y
          dsimp only at u0 u1
          have Rk := Mr.hid (hRk.below ((Below.refl _ _).alloc (Nat.le_refl _) (.cells #[.int .i64 ad, .int .i64 vl] 70)))
          obtain ⟨csk, hAk, hEk⟩ := Rk.out.a
          rw [← hbx.out] at hAk
          have JN := Mr.hid (join_any _ bx i ad vl (b.take k) csk _ hAk hEk (by have := hlt'.out; omega) (rdI_get s nt i _ pc _ (by have := hlb.out; have := hlt'.out; omega) hlt'.out) (by rw [List.length_take]; have := hb10.out; omega))
          clear hcc hy hkx hk hRk hAk hEk
          go_wp2_with (go_at_call 46; refine JN.out.mono ?_; clear JN; rintro e w9 ⟨rfl, D9, F9⟩; replace D9 := Mr.hid D9; replace F9 := Mr.hid F9)
          have RN : Hid (Rdv w w9 (rdI s nt i ⟨r0, r1, r2, r3⟩ pc (b.take (k + 1))) vs zs) := by
            refine Rk.out.fr (by rw [← hbx.out]; exact F9.out) ?_
            rw [hty.out, ← rdI_set, ← hbx.out]
            exact D9.out
          go_roundg (gk - 1)
          case measure => have := hk'.out; omega
          case rel => exact ⟨k + 1, by simp, by have := hk'.out; omega, RN.out⟩
        · have hfk : b.take k = b := List.take_of_length_le (by have := hnb'.out; omega)
          rw [hfk] at hRk
          have RN : Hid (Rdv w wr (rdS s nt (i + 1)) vs zs) := by
            rw [← rdS_next s nt i _ _ _ hr'.out hpc'.out hb'.out hlt'.out]
            exact hRk
          have dk : decide ((k : Int) < (nb : Int)) = false := decide_eq_false (by omega)
          have dk2 : ¬ (k : Int) < (nb : Int) := by omega
          clear hk hfk hkl hRk
          go_wp2
          go_roundg (nt - (i + 1))
          case measure => have := hi'.out; omega
          case rel => exact ⟨i + 1, by simp, by have := hi'.out; omega, RN.out⟩
    · obtain rfl : i = nt := by omega
      rw [rdS_all s i hlr.out.symm hlp.out.symm hlb.out.symm] at hR
      obtain ⟨cs, hA, hE⟩ := hR.a
      rw [← hbx.out] at hA
      have dl : decide ((i : Int) < (i : Int)) = false := decide_eq_false (by omega)
      have dl2 : ¬ (i : Int) < (i : Int) := by omega
      have hcs : cs.size = 118 := hA.2
      have szf : Hid ((Tryd.prog.info? 62).map (·.size) = some cs.size) := by show _ = _; rw [hcs]; exact szz
      have hszf : Hid (zs.size = cs.size) := by show _ = _; rw [hsz, hcs]
      have hfo := Mr.hid hE.one
      have hz1 := Mr.hid hR.z
      have hA' := Mr.hid hA.1
      have BF : Hid (Below w.heap.size w (wr.setRow (w.heap.size + 1) cs)) := ⟨hR.B.os, hR.B.tape, hR.B.output, by have := hR.B.size; simpa using this, fun k hk => (setRow_other wr (w.heap.size + 1) k _ (by omega)).trans (hR.B.block k hk)⟩
      have g4 : Hid ((wr.setRow (w.heap.size + 1) cs).heap[w.heap.size + 1]? = some (.cells cs 62 (0, 0))) := setRow_heap wr (w.heap.size + 1) zs cs 62 _ hR.z
      have hE' := Mr.hid hE
      clear hi hlt hR hA hE
      go_wp2_with (first | (refine wpList_load_row rfl 62 _ rfl bx rfl 62 _ _ _ hA'.out Tryd.underlying62 rfl szf.out ?_) | (refine wpList_store_row rfl 62 _ _ rfl (w.heap.size + 1) cs rfl rfl 62 zs hz1.out szf.out hszf.out hfo.out ?_))
      refine bodyPost_ret (v := .agg cs) (results_cell_row Tryd.results31 _ _ (w.heap.size + 1) 62 cs (0, 0) _ rfl g4.out Tryd.underlying62 rfl szf.out) rfl ⟨cs, rfl, hcs, hE'.out, BF.out⟩
end Go.Proofs.YtmejblmeaipahaaDoor.Ts
/-
  TSO: whether a buffer may be; whether a state is one of a program's and an order's.
-/
namespace Go.Proofs.YtmejblmeaipahaaDoor.Ts
open Go.RowKit Mr
set_option linter.unusedVariables false
set_option linter.unusedSimpArgs false
set_option maxRecDepth 100000
def bfB (o n : Int) (b : List Pd) : Bool := decide (b.length ≤ 10) && !(decide (o = 1) && decide (0 < b.length)) && b.all (fun p => inB p.ad 0 (n - 1))
def belT (l : Lt) (o : Int) (s : Sv) (t : Nat) : Bool := inB (s.pl.getD t 0) 0 ((l.th.getD t []).length : Int) && bfB o (l.ws.length : Int) (s.bf.getD t [])
/-- Is a state one of a program and an order? -/
def belB (l : Lt) (o : Int) (s : Sv) : Bool := decide (s.ws.length = l.ws.length) && decide (s.rg.length = l.th.length) && decide (s.pl.length = l.th.length) && decide (s.bf.length = l.th.length) && (List.range l.th.length).all (belT l o s)
set_option maxHeartbeats 8000000 in
theorem buf_any (b : List Pd) (a : Option Addr) (m cp : Nat) (o n : Int) (w : World) (hn : 1 ≤ n ∧ n ≤ 1000000) (hP : PdAt w a m b) :
    Calls Tryd.prog 44 #[.slice a m cp, .int .i64 o, .int .i64 n] w fun e w' => e = .returned (.bool (bfB o n b)) ∧ Below w.heap.size w w' := by
  have hl := Mr.hid hP.1
  have WI : Hid (∀ x W, Calls Tryd.prog 36 #[.int .i64 x, .int .i64 0, .int .i64 (n - 1)] W fun e w' => e = .returned (.bool (inB x 0 (n - 1))) ∧ w' = W) := fun x W => within_any x 0 (n - 1) W
  have hwn : IntKind.i64.wrap (n - 1) = n - 1 := i64x _ (by omega) (by omega)
  replace hP := Mr.hid hP
  by_cases h10 : m ≤ 10
  · have d1 : decide ((10 : Int) < (m : Int)) = false := decide_eq_false (by omega)
    have d2 : ¬ (10 : Int) < (m : Int) := by omega
    by_cases hs : o = 1 ∧ 0 < m
    · obtain ⟨rfl, hm⟩ := hs
      have d3 : decide ((0 : Int) < (m : Int)) = true := decide_eq_true (by omega)
      have d4 : (0 : Int) < (m : Int) := by omega
      have hcb : bfB 1 n b = false := by unfold bfB; rw [decide_eq_true (show 0 < b.length by rw [← hl.out]; exact hm)]; simp
      rw [hcb]
      go_enter Tryd.func44, Tryd.ntmps44
      go_wp2
      go_ret
      exact ⟨rfl, Below.refl _ _⟩
    · have hcb : Hid (bfB o n b = b.all (fun p => inB p.ad 0 (n - 1))) := by
        show _ = _
        unfold bfB
        rw [decide_eq_true (by rw [← hl.out]; exact h10)]
        by_cases ho : o = 1
        · rw [decide_eq_false (show ¬ 0 < b.length by rw [← hl.out]; exact fun h => hs ⟨ho, h⟩)]; simp
        · rw [decide_eq_false ho]; simp
      rw [hcb.out]
      obtain ⟨R, hR⟩ : ∃ R, b.all (fun p => inB p.ad 0 (n - 1)) = R := ⟨_, rfl⟩
      rw [hR]
      replace hR := Mr.hid hR
      by_cases ho : o = 1
      · have hm0 : m = 0 := by have := hs; omega
        subst ho
        subst hm0
        have hb0 : b = [] := List.eq_nil_of_length_eq_zero hl.out.symm
        have r1 : Hid (R = true) := by show _ = _; rw [← hR.out, hb0]; rfl
        clear hs hcb d1 d2 h10 WI hwn
        go_enter Tryd.func44, Tryd.ntmps44
        go_upto_region 4 with fail
        go_loopg [23] 0 (fun gk s23 wr => s23 = .int .i64 0 ∧ wr = w)
        case atStart => exact ⟨rfl, rfl⟩
        case round =>
          obtain ⟨rfl, rfl⟩ := hrel
          go_wp2
          go_ret
          exact ⟨by rw [r1.out]; rfl, Below.refl _ _⟩
      · have ho1 : (o == 1) = false := by simpa using ho
        clear hs ho
        go_enter Tryd.func44, Tryd.ntmps44
        go_upto_region 4 with fail
        clear d1 d2 ho1
        go_loopg [23] m (fun gk s23 wr => ∃ i : Nat, s23 = .int .i64 (i : Int) ∧ i + gk = m ∧ (b.take i).all (fun p => inB p.ad 0 (n - 1)) = true ∧ Below w.heap.size w wr)
        case atStart => exact ⟨0, rfl, by omega, rfl, Below.refl _ _⟩
        case round =>
          obtain ⟨i, rfl, hi, hall, hB⟩ := hrel
          by_cases hlt : i < m
          · have hli : i < b.length := by have := hl.out; omega
            obtain ⟨x, hx⟩ : ∃ x, b[i]? = some x := ⟨b[i], List.getElem?_eq_getElem hli⟩
            obtain ⟨g, q, rfl, hg, hc⟩ := hP.out.2.resolve_left (by intro e; rw [e] at hli; simp at hli)
            obtain ⟨e0, e1⟩ := hc i x hx
            have c0 := (hB.cell (p := ⟨g, q + i * 2, none⟩) hg).trans e0
            have c1 := (hB.cell (p := ⟨g, q + i * 2 + 1, none⟩) hg).trans e1
            have hgw : g < wr.heap.size := Nat.lt_of_lt_of_le hg hB.size
            have hts := take_succ_of hx
            have hmem := List.mem_of_getElem? hx
            have hlI : (i : Int) < (m : Int) := by omega
            have dl : decide ((i : Int) < (m : Int)) = true := by simpa using hlI
            have hw : IntKind.i64.wrap ((i : Int) + 1) = (i : Int) + 1 := i64x _ (by omega) (by omega)
            have hi' := Mr.hid hi
            have hnext : Hid (inB x.ad 0 (n - 1) = true → (b.take (i + 1)).all (fun p => inB p.ad 0 (n - 1)) = true) := fun h => by rw [hts, List.all_append, hall]; simp [h]
            have hbad : Hid (inB x.ad 0 (n - 1) = false → b.all (fun p => inB p.ad 0 (n - 1)) = false) := fun h => by
              cases ha : b.all (fun p => inB p.ad 0 (n - 1)) with
              | false => rfl
              | true => have := List.all_eq_true.1 ha x hmem; rw [h] at this; cases this
            have W1 := Mr.hid (fun W => WI.out x.ad W)
            generalize inB x.ad 0 (n - 1) = fx at *
            obtain ⟨ad, vl⟩ := x
            dsimp only at c0 c1 W1
            have hBa : Hid (Below w.heap.size w (wr.alloc (.cells #[.int .i64 ad, .int .i64 vl] 70))) := hB.alloc hB.size _
            clear hc hx hts hli hi hall hmem hB e0 e1
            cases fx with
            | true =>
              go_wp2_with (go_at_call 36; refine (W1.out _).mono ?_; clear W1; rintro e w9 ⟨rfl, hw9⟩; obtain rfl := hw9.symm)
              go_roundg (gk - 1)
              case measure => have := hi'.out; omega
              case rel => exact ⟨i + 1, by simp, by have := hi'.out; omega, hnext.out (by trivial), hBa.out⟩
            | false =>
              go_wp2_with (go_at_call 36; refine (W1.out _).mono ?_; clear W1; rintro e w9 ⟨rfl, hw9⟩; obtain rfl := hw9.symm)
              go_ret
              exact ⟨by rw [← hR.out, hbad.out (by trivial)]; rfl, hBa.out⟩
          · have hfin : b.take i = b := List.take_of_length_le (by have := hl.out; omega)
            rw [hfin] at hall
            have dl : decide ((i : Int) < (m : Int)) = false := decide_eq_false (by omega)
            have dl2 : ¬ (i : Int) < (m : Int) := by omega
            replace hall := Mr.hid hall
            replace hB := Mr.hid hB
            clear hlt hi hfin
            go_wp2
            go_ret
            exact ⟨by rw [← hR.out, hall.out]; rfl, hB.out⟩
  · have d1 : decide ((10 : Int) < (m : Int)) = true := decide_eq_true (by omega)
    have d2 : (10 : Int) < (m : Int) := by omega
    have hcb : bfB o n b = false := by unfold bfB; rw [decide_eq_false (by rw [← hl.out]; exact h10)]; rfl
    rw [hcb]
    go_enter Tryd.func44, Tryd.ntmps44
    go_wp2
    go_ret
    exact ⟨rfl, Below.refl _ _⟩
end Go.Proofs.YtmejblmeaipahaaDoor.Ts
