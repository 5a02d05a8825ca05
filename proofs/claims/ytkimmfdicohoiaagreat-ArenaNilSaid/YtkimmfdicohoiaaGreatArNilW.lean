import Derived.Test.YtkimmfdicohoiaaGreatJ45
import Derived.Test.YtkimmfdicohoiaaGreatJ12
/-
  THE LAW ArenaNil: its walk.
-/
namespace Go.Proofs.YtkimmfdicohoiaaGreat.Ar
open Go.RowKit Go.Shelf Mr Me Ma Wc Wm Wr Rf
set_option linter.unusedVariables false
theorem run_len_map (w : World) (m : Nat) (h : w.heap[m]? = some (.map #[] 0)) (t : TypeId) : (Builtin.len_ #[48] t #[.map (some m)]).run Tryz.prog w = .ok (.int .i64 0) w := by
  simp [Builtin.len_, run_underlying Tryz.underlying48, Sem.run_bind, getObj, Sem.run, h, Result.andThen, goInt]
def gvZ : Obj := .cells #[.pointer none, .int .i64 0, .int .i64 0, .int .i64 0, .int .u64 0, .int .i64 0] 154
/-- The seven asks of three parts that no arena made, one behind the other. -/
def Parts (W7 : World) (bt bg bf : Nat) : Prop :=
  Calls Tryz.prog 30 #[.pointer (some ⟨bt, 0, none⟩), .pointer none] W7 fun e w1 => e = .returned (.bool true) ∧ Below W7.heap.size W7 w1 ∧
  Calls Tryz.prog 31 #[.pointer (some ⟨bt, 0, none⟩), .pointer none] w1 fun e w2 => e = .returned (.bool true) ∧ Below W7.heap.size W7 w2 ∧
  Calls Tryz.prog 32 #[.pointer (some ⟨bt, 0, none⟩)] w2 fun e w3 => e = .returned (.int .i64 (-1)) ∧ Below W7.heap.size W7 w3 ∧
  Calls Tryz.prog 33 #[.pointer (some ⟨bg, 0, none⟩), .pointer none] w3 fun e w4 => e = .returned (.bool true) ∧ Below W7.heap.size W7 w4 ∧
  Calls Tryz.prog 34 #[.pointer (some ⟨bg, 0, none⟩), .pointer none] w4 fun e w5 => e = .returned (.bool true) ∧ Below W7.heap.size W7 w5 ∧
  Calls Tryz.prog 35 #[.pointer (some ⟨bf, 0, none⟩), .pointer none] w5 fun e w6 => e = .returned (.bool true) ∧ Fr W7 w6 (fun k => k = bf) ∧
  Calls Tryz.prog 36 #[.pointer (some ⟨bf, 0, none⟩), .pointer none] w6 fun e w8 => e = .returned (.bool true) ∧ Fr W7 w8 (fun k => k = bf)
theorem parts_z {W7 : World} {bt bg bf : Nat} {v : Value} {i : Int} (hz : Za W7 v) (ht : W7.heap[bt]? = some tkZ) (hg : W7.heap[bg]? = some gvZ) (hf : W7.heap[bf]? = some (.cells #[v, .int .i64 i, .int .i64 0, .int .i64 3, .int .u64 0, .int .i64 4] 155 (0, 0))) (hv : v = .pointer none ∨ ∃ b, v = .pointer (some ⟨b, 0, none⟩)) : Parts W7 bt bg bf := by
  have lt := (Array.getElem?_eq_some_iff.1 ht).1
  have lg := (Array.getElem?_eq_some_iff.1 hg).1
  have lf := (Array.getElem?_eq_some_iff.1 hf).1
  have T : ∀ W', Below W7.heap.size W7 W' → W'.cell? ⟨bt, 0, none⟩ = some (.pointer none) ∧ W'.cell? ⟨bt, 3, none⟩ = some (.int .i64 0) ∧ W'.cell? ⟨bt, 6, none⟩ = some (.bool false) ∧ bt < W'.heap.size := fun W' hB => by
    have e : W'.heap[bt]? = some tkZ := (hB.block _ lt).trans ht
    unfold tkZ at e
    exact ⟨by simp [World.cell?, e], by simp [World.cell?, e], by simp [World.cell?, e], (Array.getElem?_eq_some_iff.1 e).1⟩
  have G : ∀ W', Below W7.heap.size W7 W' → W'.cell? ⟨bg, 0, none⟩ = some (.pointer none) ∧ W'.cell? ⟨bg, 3, none⟩ = some (.int .i64 0) ∧ bg < W'.heap.size := fun W' hB => by
    have e : W'.heap[bg]? = some gvZ := (hB.block _ lg).trans hg
    unfold gvZ at e
    exact ⟨by simp [World.cell?, e], by simp [World.cell?, e], (Array.getElem?_eq_some_iff.1 e).1⟩
  have tr : ∀ {A B : World}, Below W7.heap.size W7 A → Below A.heap.size A B → Below W7.heap.size W7 B := fun h1 h2 => h1.trans (h2.mono h1.size)
  unfold Parts
  refine (tready_z (Q := fun w' => Below W7.heap.size W7 w') (fun x hB => ?_)).mono ?_
  · obtain ⟨t0, t3, t6, tl⟩ := T x hB
    exact (trun_z 0 (.inl rfl) t0 t3 tl).mono (fun e w' h => ⟨h.1, tr hB h.2⟩)
  rintro e w1 ⟨rfl, h1⟩
  refine ⟨rfl, h1, (tstep_z (Q := fun w' => Below W7.heap.size W7 w') (fun x hB => ?_)).mono ?_⟩
  · obtain ⟨t0, t3, t6, tl⟩ := T x (tr h1 hB)
    exact (trun_z 1 (.inl rfl) t0 t3 tl).mono (fun e w' h => ⟨h.1, tr (tr h1 hB) h.2⟩)
  rintro e w2 ⟨rfl, h2⟩
  refine ⟨rfl, h2, (slot_none (T w2 h2).2.2.1).mono ?_⟩
  rintro e w3 ⟨rfl, hw3⟩
  subst hw3
  refine ⟨rfl, h2, (gready_z (Q := fun w' => Below W7.heap.size W7 w') (fun x hB => ?_)).mono ?_⟩
  · obtain ⟨t0, t3, tl⟩ := G x (tr h2 hB)
    exact (prun_z 0 (.inl rfl) t0 t3 tl).mono (fun e w' h => ⟨h.1, tr (tr h2 hB) h.2⟩)
  rintro e w4 ⟨rfl, h4⟩
  refine ⟨rfl, h4, (gstep_z (Q := fun w' => Below W7.heap.size W7 w') (fun x hB => ?_)).mono ?_⟩
  · obtain ⟨t0, t3, tl⟩ := G x (tr h4 hB)
    exact (prun_z 1 (.inl rfl) t0 t3 tl).mono (fun e w' h => ⟨h.1, tr (tr h4 hB) h.2⟩)
  rintro e w5 ⟨rfl, h5⟩
  refine ⟨rfl, h5, (fready_z (Q := fun w' => Fr W7 w' (fun k => k = bf) ∧ w'.heap[bf]? = some (.cells #[v, .int .i64 i, .int .i64 (-1), .int .i64 0, .int .u64 0, .int .i64 4] 155 (0, 0))) (fun x hB => ?_)).mono ?_⟩
  · have hx := tr h5 hB
    exact (frun_z (hz.below hx) ((hx.block _ lf).trans hf)).mono (fun e w' h => ⟨h.1, (Fr.of_below hx).trans (h.2.1.mono (fun _ => .inl)), h.2.2⟩)
  rintro e w6 ⟨rfl, h6, hb6⟩
  refine ⟨rfl, h6, (fstep_z (Q := fun w' => Fr W7 w' (fun k => k = bf)) (fun x hB => ?_)).mono ?_⟩
  · have e6 : x.heap[bf]? = _ := (hB.block _ (Array.getElem?_eq_some_iff.1 hb6).1).trans hb6
    exact (prun_z (bt := bf) 1 hv (by simp [World.cell?, e6]) (by simp [World.cell?, e6]) (Array.getElem?_eq_some_iff.1 e6).1).mono (fun e w' h => ⟨h.1, (h6.trans (Fr.of_below hB)).trans (Fr.of_below h.2)⟩)
  rintro e w8 ⟨rfl, h8⟩
  exact ⟨rfl, h8⟩
theorem run_box {r1 r2 : World} {v1 v2 v3 v4 : Value} (h : Below (r1.alloc (.cells #[v1, v2, v3, v4] 30)).heap.size (r1.alloc (.cells #[v1, v2, v3, v4] 30)) r2) : r2.cell? ⟨r1.heap.size, 0, none⟩ = some v1 ∧ r2.cell? ⟨r1.heap.size, 1, none⟩ = some v2 ∧ r2.cell? ⟨r1.heap.size, 2, none⟩ = some v3 ∧ r2.cell? ⟨r1.heap.size, 3, none⟩ = some v4 ∧ r1.heap.size < r2.heap.size := by
  have e : r2.heap[r1.heap.size]? = _ := (h.block _ (by simp)).trans (heap_alloc_new r1 _)
  exact ⟨by simp [World.cell?, e], by simp [World.cell?, e], by simp [World.cell?, e], by simp [World.cell?, e], (Array.getElem?_eq_some_iff.1 e).1⟩
theorem same_at {r1 r2 : World} {O : Obj} {S1 S2 : Nat → Prop} {ws : List Int} {v1 v2 v3 v4 u1 u2 u3 u4 : Value} (o : Obj) (hl : ws.length ≤ 100000)
    (a1 : Has r1 S1 90 9 v1 0 []) (a2 : Has r1 S1 94 7 v2 0 []) (a3 : Has r1 S1 96 5 v3 0 []) (a4 : Has r1 S1 92 1 v4 ws.length (wrd ws))
    (b1 : Has r2 S2 90 9 u1 0 []) (b2 : Has r2 S2 94 7 u2 0 []) (b3 : Has r2 S2 96 5 u3 0 []) (b4 : Has r2 S2 92 1 u4 ws.length (wrd ws)) (h : Below (r1.alloc O).heap.size (r1.alloc O) r2) :
    Calls Tryz.prog 10 #[.agg #[v1, v2, v3, v4], .agg #[u1, u2, u3, u4]] (r2.alloc o) fun e w' => e = .returned (.bool true) ∧ Below (r2.alloc o).heap.size (r2.alloc o) w' :=
  same_none hl (((a1.alloc O).below h).alloc o) (((a2.alloc O).below h).alloc o) (((a3.alloc O).below h).alloc o) (((a4.alloc O).below h).alloc o) (b1.alloc o) (b2.alloc o) (b3.alloc o) (b4.alloc o)
set_option maxRecDepth 100000 in
set_option maxHeartbeats 8000000 in
theorem law_nil (c : Cf) (th sl : Int) (w : World) :
    Calls Tryz.prog 5 #[c.val, .int .i64 th, .int .i64 sl] w fun e w' => e = .returned (.bool true) ∧ Below w.heap.size w w' := by
  obtain ⟨cd, ws, hl, P1, P2⟩ := both_none c
  have hcv : c.val = .agg #[.int .i64 c.a0, .int .i64 c.a1, .int .i64 c.a2, .int .i64 c.a3, .int .i64 c.a4, .int .i64 c.a5, .int .i64 c.a6] := rfl
  rw [hcv]
  simp only [hcv] at P1 P2
  replace P1 := Mr.hid P1
  replace P2 := Mr.hid P2
  clear hcv
  go_enter Tryz.func5, Tryz.ntmps5
  go_wp2_with fail
  obtain ⟨W3, hW3⟩ : ∃ W3, (((w.alloc (.cells #[.int .i64 c.a0, .int .i64 c.a1, .int .i64 c.a2, .int .i64 c.a3, .int .i64 c.a4, .int .i64 c.a5, .int .i64 c.a6] 23)).alloc (.cells #[.int .i64 0, .int .i64 0, .int .i64 0, .int .i64 0, .int .i64 0, .int .i64 0, .int .i64 0, .slice none 0 0, .slice none 0 0] 62)).alloc (.cells #[.pointer none, .pointer (some ⟨w.heap.size + 1, 0, none⟩)] 39)) = W3 := ⟨_, rfl⟩
  rw [hW3]
  have hB3 : Below w.heap.size w W3 := by rw [← hW3]; exact (((Below.refl _ _).alloc (Nat.le_refl _) _).alloc (by simp) _).alloc (by simp; omega) _
  have hs3 : W3.heap.size = w.heap.size + 1 + 1 + 1 := by rw [← hW3]; simp
  have hc3 : W3.heap[w.heap.size]? = some (.cells #[.int .i64 c.a0, .int .i64 c.a1, .int .i64 c.a2, .int .i64 c.a3, .int .i64 c.a4, .int .i64 c.a5, .int .i64 c.a6] 23 (0, 0)) := by
    rw [← hW3, Below.heap_alloc _ _ _ (by simp; omega), Below.heap_alloc _ _ _ (by simp)]
    exact heap_alloc_new w _
  have ha3 : W3.heap[w.heap.size + 1]? = some zaO := by
    rw [← hW3, Below.heap_alloc _ _ _ (by simp)]
    have := heap_alloc_new (w.alloc (.cells #[.int .i64 c.a0, .int .i64 c.a1, .int .i64 c.a2, .int .i64 c.a3, .int .i64 c.a4, .int .i64 c.a5, .int .i64 c.a6] 23)) zaO
    rwa [World.size_alloc] at this
  have hl3 : W3.heap[w.heap.size + 1 + 1]? = some (.cells #[.pointer none, .pointer (some ⟨w.heap.size + 1, 0, none⟩)] 39 (0, 0)) := by
    rw [← hW3]
    have := heap_alloc_new ((w.alloc (.cells #[.int .i64 c.a0, .int .i64 c.a1, .int .i64 c.a2, .int .i64 c.a3, .int .i64 c.a4, .int .i64 c.a5, .int .i64 c.a6] 23)).alloc (.cells #[.int .i64 0, .int .i64 0, .int .i64 0, .int .i64 0, .int .i64 0, .int .i64 0, .int .i64 0, .slice none 0 0, .slice none 0 0] 62)) (.cells #[.pointer none, .pointer (some ⟨w.heap.size + 1, 0, none⟩)] 39)
    simp only [World.size_alloc] at this
    exact this
  have hz3 : ∀ (W' : World) (j : Nat), Below W3.heap.size W3 W' → j < 2 → ∃ v, W'.cell? ⟨w.heap.size + 1 + 1, j, none⟩ = some v ∧ Za W' v := fun W' j hB hj => by
    have e1 : W'.heap[w.heap.size + 1 + 1]? = _ := (hB.block _ (by omega)).trans hl3
    have e2 : W'.heap[w.heap.size + 1]? = some zaO := (hB.block _ (by omega)).trans ha3
    rcases j with _ | _ | j
    · exact ⟨.pointer none, by simp [World.cell?, e1], .inl rfl⟩
    · exact ⟨_, by simp [World.cell?, e1], .inr ⟨_, rfl, e2⟩⟩
    · omega
  have hcc : ∀ W', Below W3.heap.size W3 W' → W'.heap[w.heap.size]? = some (.cells #[.int .i64 c.a0, .int .i64 c.a1, .int .i64 c.a2, .int .i64 c.a3, .int .i64 c.a4, .int .i64 c.a5, .int .i64 c.a6] 23 (0, 0)) := fun W' hB => (hB.block _ (by omega)).trans hc3
  replace hz3 := Mr.hid hz3
  replace hcc := Mr.hid hcc
  replace hB3 := Mr.hid hB3
  replace hs3 := Mr.hid hs3
  clear hW3 hc3 ha3 hl3
  go_loopg [9] 2 (fun k z wy => ∃ j : Nat, z = .int .i64 (j : Int) ∧ j + k = 2 ∧ Below W3.heap.size W3 wy)
  case atStart => exact ⟨0, rfl, by omega, Below.refl _ _⟩
  case round =>
    obtain ⟨j, rfl, hjk, hBr⟩ := hrel
    by_cases hj : j < 2
    · have d0 : decide ((j : Int) < 2) = true := by simp; omega
      have d1 : decide (j < 2) = true := by simp; omega
      have hj2 : (j : Int) < 2 := by omega
      obtain ⟨v, hv, hz⟩ := hz3.out wr j hBr hj
      have hvf : v = .pointer none ∨ ∃ b, v = .pointer (some ⟨b, 0, none⟩) := by rcases hz with h | ⟨b, h, _⟩; exact .inl h; exact .inr ⟨b, h⟩
      replace hvf := Mr.hid hvf
      replace hz := Mr.hid hz
      replace hBr := Mr.hid hBr
      go_wp2_with (first
        | (go_at_call 22; refine (shift_z hz.out _ _).mono ?_; rintro e wa ⟨rfl, hw⟩; obtain rfl := hw.symm)
        | (go_at_call 23; refine (state_z hz.out _).mono ?_; rintro e wa ⟨rfl, hw⟩; obtain rfl := hw.symm)
        | (go_at_call 9; refine (num_any _ _).mono ?_; rintro e wa ⟨rfl, hw⟩; obtain rfl := hw.symm)
        | (go_at_call 24; refine (config_z hz.out).mono ?_; rintro e w2 ⟨rfl, hB2⟩; have hz2 := Mr.hid (hz.out.below hB2); have hB02 := Mr.hid (hBr.out.trans (hB2.mono hBr.out.size)); clear hB2)
        | (go_at_call 25; refine (cached_z hz2.out _).mono ?_; rintro e wa ⟨rfl, hw⟩; obtain rfl := hw.symm)
        | (go_at_call 26; refine (count_z hz2.out _).mono ?_; rintro e wa ⟨rfl, hw⟩; obtain rfl := hw.symm)
        | (go_at_call 15; refine (kit_z hz2.out).mono ?_; rintro e w4 ⟨mm, rfl, hmm, hB4⟩; have hlm := run_len_map w4 mm hmm; have hz4 := Mr.hid (hz2.out.below hB4); have hB04 := Mr.hid (hB02.out.trans (hB4.mono hB02.out.size)); clear hB4 hmm)
        | (go_at_call 27; refine (take_z hz4.out _).mono ?_; rintro e w5 ⟨rfl, hw5⟩; have hB5 : Below w4.heap.size w4 w5 := (by rw [hw5]; exact (Below.refl _ _).alloc (Nat.le_refl _) _); have ht5 : w5.heap[w4.heap.size]? = some tkZ := (by rw [hw5]; exact heap_alloc_new w4 _); have hz5 := Mr.hid (hz4.out.below hB5); have hB05 := Mr.hid (hB04.out.trans (hB5.mono hB04.out.size)); replace ht5 := Mr.hid ht5; clear hB5 hw5)
        | (go_at_call 28; refine (give_z hz5.out _ _).mono ?_; rintro e w6 ⟨rfl, hw6⟩; have hB6 : Below w5.heap.size w5 w6 := (by rw [hw6]; exact (Below.refl _ _).alloc (Nat.le_refl _) _); have hg6 : w6.heap[w5.heap.size]? = some gvZ := (by rw [hw6]; exact heap_alloc_new w5 _); have hz6 := Mr.hid (hz5.out.below hB6); have ht6 := Mr.hid ((hB6.block _ (Array.getElem?_eq_some_iff.1 ht5.out).1).trans ht5.out); have hB06 := Mr.hid (hB05.out.trans (hB6.mono hB05.out.size)); replace hg6 := Mr.hid hg6; clear hB6 hw6)
        | (go_at_call 29; refine (flush_z hz6.out _).mono ?_; rintro e w7 ⟨bf, rfl, hbf, hB7, hf7⟩; have hz7 := hz6.out.below hB7; have ht7 := (hB7.block _ (Array.getElem?_eq_some_iff.1 ht6.out).1).trans ht6.out; have hg7 := (hB7.block _ (Array.getElem?_eq_some_iff.1 hg6.out).1).trans hg6.out; have hB07 := Mr.hid (hB06.out.trans (hB7.mono hB06.out.size)); have hP0 := parts_z hz7 ht7 hg7 hf7 hvf.out; unfold Parts at hP0; have hP := Mr.hid hP0; clear hP0; have hs4 := Mr.hid hB04.out.size; have hs6 := Mr.hid (Nat.le_trans hB06.out.size hbf); clear hB7 hz7 ht7 hg7 hf7 hbf)
        | (go_at_call 30; refine hP.out.mono ?_; clear hP; rintro e q1 ⟨rfl, _, hP⟩; replace hP := Mr.hid hP)
        | (go_at_call 31; refine hP.out.mono ?_; clear hP; rintro e q2 ⟨rfl, _, hP⟩; replace hP := Mr.hid hP)
        | (go_at_call 32; refine hP.out.mono ?_; clear hP; rintro e q3 ⟨rfl, _, hP⟩; replace hP := Mr.hid hP)
        | (go_at_call 33; refine hP.out.mono ?_; clear hP; rintro e q4 ⟨rfl, _, hP⟩; replace hP := Mr.hid hP)
        | (go_at_call 34; refine hP.out.mono ?_; clear hP; rintro e q5 ⟨rfl, _, hP⟩; replace hP := Mr.hid hP)
        | (go_at_call 35; refine hP.out.mono ?_; clear hP; rintro e q6 ⟨rfl, _, hP⟩; replace hP := Mr.hid hP)
        | (go_at_call 36; refine hP.out.mono ?_; clear hP; rintro e q7 ⟨rfl, hFr⟩; replace hFr := Mr.hid hFr))
      go_roundg (gk - 1)
      case measure => omega
      case rel => exact ⟨j + 1, by simp, by omega, hB07.out.trans (hFr.out.below (fun k hk => by have h0 : k = bf := hk; have := hs6.out; omega) hB07.out.size)⟩
    · have d0 : decide ((j : Int) < 2) = false := by simp; omega
      have d1 : decide (j < 2) = false := by simp; omega
      have hb0 := Mr.hid hBr
      clear hz3 hjk hj
      go_wp2_with (first
        | (go_at_call 30; refine (tready_n _).mono ?_; rintro e a1 ⟨rfl, hA⟩; have hb1 := Mr.hid (hb0.out.trans (hA.mono hb0.out.size)); clear hA)
        | (go_at_call 31; refine (tstep_n _).mono ?_; rintro e a2 ⟨rfl, hA⟩; have hb2 := Mr.hid (hb1.out.trans (hA.mono hb1.out.size)); clear hA)
        | (go_at_call 32; refine (tslot_n _).mono ?_; rintro e wa ⟨rfl, hw⟩; obtain rfl := hw.symm)
        | (go_at_call 33; refine (gready_n _).mono ?_; rintro e a3 ⟨rfl, hA⟩; have hb3 := Mr.hid (hb2.out.trans (hA.mono hb2.out.size)); clear hA)
        | (go_at_call 34; refine (gstep_n _).mono ?_; rintro e a4 ⟨rfl, hA⟩; have hb4 := Mr.hid (hb3.out.trans (hA.mono hb3.out.size)); clear hA)
        | (go_at_call 35; refine (fready_n _).mono ?_; rintro e a5 ⟨rfl, hA⟩; have hb5 := Mr.hid (hb4.out.trans (hA.mono hb4.out.size)); clear hA)
        | (go_at_call 36; refine (fstep_n _).mono ?_; rintro e a6 ⟨rfl, hA⟩; have hb6 := Mr.hid (hb5.out.trans (hA.mono hb5.out.size)); clear hA; obtain ⟨y0, y1, y2, y3, y4, y5, y6⟩ := cf_box (hcc.out _ hb6.out); have ly : w.heap.size < a6.heap.size := (by have := hb6.out.size; have := hs3.out; omega))
        | (go_at_call 7; refine (P1.out _).mono ?_; clear P1; rintro e r1 ⟨v1, v2, v3, v4, rfl, k1, k2, k3, k4, k5⟩; obtain ⟨p1, q1, rfl, _⟩ := k1.form; obtain ⟨p2, q2, rfl, _⟩ := k2.form; obtain ⟨p3, q3, rfl, _⟩ := k3.form; obtain ⟨p4, q4, rfl, _⟩ := k4.form; have hb7 := Mr.hid (hb6.out.trans (k5.mono hb6.out.size)); clear y0 y1 y2 y3 y4 y5 y6; obtain ⟨y0, y1, y2, y3, y4, y5, y6⟩ := cf_box (hcc.out _ hb7.out); have ly1 : w.heap.size < r1.heap.size := (by have := hb7.out.size; have := hs3.out; omega); unfold runV; replace k1 := Mr.hid k1; replace k2 := Mr.hid k2; replace k3 := Mr.hid k3; replace k4 := Mr.hid k4; clear k5)
        | (go_at_call 8; refine (P2.out _).mono ?_; clear P2; rintro e r2 ⟨u1, u2, u3, u4, rfl, j1, j2, j3, j4, j5⟩; obtain ⟨p5, q5, rfl, _⟩ := j1.form; obtain ⟨p6, q6, rfl, _⟩ := j2.form; obtain ⟨p7, q7, rfl, _⟩ := j3.form; obtain ⟨p8, q8, rfl, _⟩ := j4.form; obtain ⟨z0, z1, z2, z3, zl⟩ := run_box j5; have hb8 := Mr.hid ((hb7.out.alloc hb7.out.size _).trans (j5.mono (by have := hb7.out.size; simp; omega))); have SM := Mr.hid (fun o => same_at o hl k1.out k2.out k3.out k4.out j1 j2 j3 j4 j5); unfold runV; replace j5 := Mr.hid j5; clear j1 j2 j3 j4)
        | (go_at_call 9; refine (num_any _ _).mono ?_; rintro e wa ⟨rfl, hw⟩; obtain rfl := hw.symm)
        | (go_at_call 10; refine (SM.out _).mono ?_; clear SM; rintro e r3 ⟨rfl, hB9⟩; replace hB9 := Mr.hid hB9)
        | (go_at_call 37; refine (awake_any _).mono ?_; rintro e r4 ⟨rfl, hB10⟩; replace hB10 := Mr.hid hB10))
      go_ret
      have s3 := hs3.out
      have s8 := hb8.out.size
      have s9 := hB9.out.size
      simp only [World.size_alloc] at s9
      refine ⟨rfl, (hB3.out.trans ((hb8.out.alloc hb8.out.size _).mono (by omega))).trans ((hB9.out.mono (by simp only [World.size_alloc]; omega)).trans (hB10.out.mono (by omega)))⟩
theorem walk_nil (a0 a1 a2 a3 a4 a5 a6 th sl : Int) (w : World) (_h : (Lit.int .i64 a0).wf = true ∧ (Lit.int .i64 a1).wf = true ∧ (Lit.int .i64 a2).wf = true ∧ (Lit.int .i64 a3).wf = true ∧ (Lit.int .i64 a4).wf = true ∧ (Lit.int .i64 a5).wf = true ∧ (Lit.int .i64 a6).wf = true) (_h1 : (Lit.int .i64 th).wf = true) (_h2 : (Lit.int .i64 sl).wf = true) :
    Calls Tryz.prog 5 #[.agg #[.int .i64 a0, .int .i64 a1, .int .i64 a2, .int .i64 a3, .int .i64 a4, .int .i64 a5, .int .i64 a6], .int .i64 th, .int .i64 sl] w fun e w' => e = .returned (.bool true) ∧ Below w.heap.size w w' := law_nil ⟨a0, a1, a2, a3, a4, a5, a6⟩ th sl w
end Go.Proofs.YtkimmfdicohoiaaGreat.Ar
