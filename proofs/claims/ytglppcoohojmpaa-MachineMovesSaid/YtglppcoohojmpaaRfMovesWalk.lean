import Derived.Test.YtglppcoohojmpaaRfMovesA
/-
  MachineMoves: the whole.
-/
namespace Go.Proofs.Ytglppcoohojmpaa.Rf
open Go.RowKit Go.Shelf Mr Me Ma
set_option maxRecDepth 100000 in
set_option maxHeartbeats 8000000 in
theorem moves_cfg (th : Int) (hth : th < 1 ∨ 16 < th) (a : Option Addr) (n cap : Nat) (ws : List Int) (am : Option Addr) (nm cm : Nat) (ms : List Mv) (ask : Int) (w : World) (hs : Src w a n cap ws) (hm : MvAt w am nm ms) (z1 : n * 8 ≤ 140737488351232) :
    Calls Try.prog 5 #[.agg #[.int .i64 th, .slice a n cap, .slice am nm cm], .int .i64 ask] w fun e w' => e = .returned (.bool true) ∧ Below w.heap.size w w' := by
  replace hth := Mr.hid hth
  obtain ⟨i4, t1, t2, t3, t4⟩ := info_parts info_u64'
  have hl := hs.1
  have o4 : ∀ u ∈ wrd ws, u.oneCell' = true := by
    intro u hu
    obtain ⟨x, _, rfl⟩ := List.mem_map.1 hu
    rfl
  have e4 : (wrd ws).length = n * 1 := by simp [wrd, hl]
  have K0 : K3 w (w.alloc (.cells #[.int .i64 th, .slice a n cap, .slice am nm cm] 25)) (.int .i64 th) (.slice a n cap) (.slice am nm cm) := ⟨(Below.refl _ _).alloc (Nat.le_refl _) _, heap_alloc_new w _⟩
  have SN := Mr.hid (fun (W : World) (hK : K3 w W (.int .i64 th) (.slice a n cap) (.slice am nm cm)) => (hs.below hK.1).news.2)
  have ha := Mr.hid hs.news.1
  replace K0 := Mr.hid K0
  replace o4 := Mr.hid o4
  replace e4 := Mr.hid e4
  replace hl := Mr.hid hl
  replace hs := Mr.hid hs
  replace hm := Mr.hid hm
  go_enter Try.func5, Try.ntmps5
  go_upto_region 3 with (first
    | (go_at_call 11; refine (awake_any _).mono ?_; rintro e w1 ⟨rfl, hB1⟩; have K1 := Mr.hid (K0.out.below hB1); clear hB1 K0)
    | fail)
  obtain ⟨f0, f1, f2, hw1⟩ := K1.out.cells
  have KE := Mr.hid (K1.out.below (Below.refl _ _).drew)
  go_cut [5, 6] (fun s5 s6 wx => s5 = .pointer none ∧ s6 = .int .i64 1 ∧ K3 w wx (.int .i64 th) (.slice a n cap) (.slice am nm cm))
  case first =>
    go_wp2
    go_region_held3 (fun w' => w'.cell? ⟨w.heap.size, 0, none⟩ = some (.int .i64 th) ∧ w'.cell? ⟨w.heap.size, 1, none⟩ = some (.slice a n cap)) (first | exact ⟨KN.out.cells.1, KN.out.cells.2.1⟩ | exact ⟨KO.out.cells.1, KO.out.cells.2.1⟩ | exact ⟨KA.out.cells.1, KA.out.cells.2.1⟩ | exact ⟨KE.out.cells.1, KE.out.cells.2.1⟩ | go_keep)
      (first
        | (refine step_append_fresh _ rfl (.const (.slice none 0 0)) (.tmp 27) 22 rfl (fun _ => True) 59 i4 _ 1 8 Try.underlying22 t1 t2 t3 t4 rfl rfl a n cap (wrd ws) (by first | rfl | simp [Act.eval]) e4.out ha.out (SN.out _ (by first | exact KO.out | exact KE.out)) o4.out (by unfold maxLen; omega) (by omega) trivial ?_; intro v0 wa hv0 hg0 hk0; clear hk0; have hBa := (Below.refl _ _).grown hg0 (Nat.le_refl _) (fun k hk => by cases hk); have KA : K3 w wa (.int .i64 th) (.slice a n cap) (.slice am nm cm) := (by first | exact KO.out.below hBa | exact KE.out.below hBa); replace KA := Mr.hid KA; obtain ⟨p0, q0, rfl, _⟩ := hv0.form; clear hg0 hBa hv0)
        | (go_at_call 10; refine (own_any n _).mono ?_; rintro e wo ⟨rfl, hK, hBo⟩; have KO : K3 w wo (.int .i64 th) (.slice a n cap) (.slice am nm cm) := (by first | exact KA.out.below hBo | exact KE.out.below hBo); replace KO := Mr.hid KO; clear hK hBo)
        | (go_at_call 8; refine (newM_cfg _ th hth.out _ _ _ _).mono ?_; rintro e wn ⟨rfl, hw⟩; obtain rfl := hw.symm))
    all_goals go_wp2
    all_goals go_meet
    all_goals exact ⟨rfl, rfl, by first | exact KO.out | exact KA.out⟩
  case rest =>
    obtain ⟨rfl, rfl, KX⟩ := hcut
    clear f0 f1 f2 hw1 KE K1 SN
    obtain ⟨f0, f1, f2, hwx⟩ := KX.cells
    replace KX := Mr.hid KX
    rcases hth.out with h | h
    · have d1 : decide (th < 1) = true := decide_eq_true h
      clear h
      go_wp2
      go_ret
      exact ⟨rfl, KX.out.1⟩
    · have d1 : decide (th < 1) = false := decide_eq_false (by omega)
      have d2 : decide (16 < th) = true := decide_eq_true h
      clear h
      go_wp2
      go_ret
      exact ⟨rfl, KX.out.1⟩
set_option maxRecDepth 100000 in
set_option maxHeartbeats 8000000 in
theorem moves_long (nth : Nat) (h1 : 1 ≤ nth) (h2 : nth ≤ 16) (a : Option Addr) (n cap : Nat) (ws : List Int) (am : Option Addr) (nm cm : Nat) (ms : List Mv) (ask : Int) (w : World) (hs : Src w a n cap ws) (hm : MvAt w am nm ms) (z1 : n * 8 ≤ 140737488351232) (hn : 8192 < n) :
    Calls Try.prog 5 #[.agg #[.int .i64 (nth : Int), .slice a n cap, .slice am nm cm], .int .i64 ask] w fun e w' => e = .returned (.bool true) ∧ Below w.heap.size w w' := by
  obtain ⟨i4, t1, t2, t3, t4⟩ := info_parts info_u64'
  have hl := hs.1
  have o4 : ∀ u ∈ wrd ws, u.oneCell' = true := by
    intro u hu
    obtain ⟨x, _, rfl⟩ := List.mem_map.1 hu
    rfl
  have e4 : (wrd ws).length = n * 1 := by simp [wrd, hl]
  have K0 : K3 w (w.alloc (.cells #[.int .i64 (nth : Int), .slice a n cap, .slice am nm cm] 25)) (.int .i64 (nth : Int)) (.slice a n cap) (.slice am nm cm) := ⟨(Below.refl _ _).alloc (Nat.le_refl _) _, heap_alloc_new w _⟩
  have SN := Mr.hid (fun (W : World) (hK : K3 w W (.int .i64 (nth : Int)) (.slice a n cap) (.slice am nm cm)) => (hs.below hK.1).news.2)
  have ha := Mr.hid hs.news.1
  replace K0 := Mr.hid K0
  replace o4 := Mr.hid o4
  replace e4 := Mr.hid e4
  replace hl := Mr.hid hl
  replace hs := Mr.hid hs
  replace hm := Mr.hid hm
  go_enter Try.func5, Try.ntmps5
  go_upto_region 3 with (first
    | (go_at_call 11; refine (awake_any _).mono ?_; rintro e w1 ⟨rfl, hB1⟩; have K1 := Mr.hid (K0.out.below hB1); clear hB1 K0)
    | fail)
  obtain ⟨f0, f1, f2, hw1⟩ := K1.out.cells
  have KE := Mr.hid (K1.out.below (Below.refl _ _).drew)
  go_cut [5, 6] (fun s5 s6 wx => s5 = .pointer none ∧ s6 = .int .i64 3 ∧ K3 w wx (.int .i64 (nth : Int)) (.slice a n cap) (.slice am nm cm))
  case first =>
    go_wp2
    go_region_held3 (fun w' => w'.cell? ⟨w.heap.size, 0, none⟩ = some (.int .i64 (nth : Int)) ∧ w'.cell? ⟨w.heap.size, 1, none⟩ = some (.slice a n cap)) (first | exact ⟨KN.out.cells.1, KN.out.cells.2.1⟩ | exact ⟨KO.out.cells.1, KO.out.cells.2.1⟩ | exact ⟨KA.out.cells.1, KA.out.cells.2.1⟩ | exact ⟨KE.out.cells.1, KE.out.cells.2.1⟩ | go_keep)
      (first
        | (refine step_append_fresh _ rfl (.const (.slice none 0 0)) (.tmp 27) 22 rfl (fun _ => True) 59 i4 _ 1 8 Try.underlying22 t1 t2 t3 t4 rfl rfl a n cap (wrd ws) (by first | rfl | simp [Act.eval]) e4.out ha.out (SN.out _ (by first | exact KO.out | exact KE.out)) o4.out (by unfold maxLen; omega) (by omega) trivial ?_; intro v0 wa hv0 hg0 hk0; clear hk0; have hBa := (Below.refl _ _).grown hg0 (Nat.le_refl _) (fun k hk => by cases hk); have KA : K3 w wa (.int .i64 (nth : Int)) (.slice a n cap) (.slice am nm cm) := (by first | exact KO.out.below hBa | exact KE.out.below hBa); replace KA := Mr.hid KA; obtain ⟨p0, q0, rfl, _⟩ := hv0.form; clear hg0 hBa hv0)
        | (go_at_call 10; refine (own_any n _).mono ?_; rintro e wo ⟨rfl, hK, hBo⟩; have KO : K3 w wo (.int .i64 (nth : Int)) (.slice a n cap) (.slice am nm cm) := (by first | exact KA.out.below hBo | exact KE.out.below hBo); replace KO := Mr.hid KO; clear hK hBo)
        | (go_at_call 8; refine (newM_long _ (nth : Int) (by omega) (by omega) _ _ _ hn _).mono ?_; rintro e wn ⟨rfl, hw⟩; obtain rfl := hw.symm))
    all_goals go_wp2
    all_goals go_meet
    all_goals exact ⟨rfl, rfl, by first | exact KO.out | exact KA.out⟩
  case rest =>
    obtain ⟨rfl, rfl, KX⟩ := hcut
    clear f0 f1 f2 hw1 KE K1 SN
    obtain ⟨f0, f1, f2, hwx⟩ := KX.cells
    replace KX := Mr.hid KX
    have d1 : decide ((nth : Int) < 1) = false := decide_eq_false (by omega)
    have d2 : decide (16 < (nth : Int)) = false := decide_eq_false (by omega)
    have d3 : decide (8192 < (n : Int)) = true := decide_eq_true (by omega)
    go_wp2
    go_ret
    exact ⟨rfl, KX.out.1⟩
theorem src_has {W : World} {S : Nat → Prop} {p : Option Addr} {n q : Nat} {ws : List Int} (h : Has W S 59 1 (.slice p n q) n (wrd ws)) (hl : n = ws.length) : Src W p n q ws := by
  subst hl
  obtain ⟨a, c, e, hs⟩ := Src.of_has h
  cases e
  exact hs
set_option maxRecDepth 100000 in
set_option maxHeartbeats 8000000 in
theorem moves_ok (nth : Nat) (h1 : 1 ≤ nth) (h2 : nth ≤ 16) (a : Option Addr) (n cap : Nat) (ws : List Int) (am : Option Addr) (nm cm : Nat) (ms : List Mv) (ask : Int) (w : World) (hs : Src w a n cap ws) (hm : MvAt w am nm ms) (z1 : n * 8 ≤ 140737488351232) (hn : n ≤ 8192) (z2 : nm * 32 ≤ 140737488351232) :
    Calls Try.prog 5 #[.agg #[.int .i64 (nth : Int), .slice a n cap, .slice am nm cm], .int .i64 ask] w fun e w' => e = .returned (.bool true) ∧ Below w.heap.size w w' := by
  obtain ⟨i4, t1, t2, t3, t4⟩ := info_parts info_u64'
  have hl := hs.1
  have o4 : ∀ u ∈ wrd ws, u.oneCell' = true := by
    intro u hu
    obtain ⟨x, _, rfl⟩ := List.mem_map.1 hu
    rfl
  have e4 : (wrd ws).length = n * 1 := by simp [wrd, hl]
  have K0 : K3 w (w.alloc (.cells #[.int .i64 (nth : Int), .slice a n cap, .slice am nm cm] 25)) (.int .i64 (nth : Int)) (.slice a n cap) (.slice am nm cm) := ⟨(Below.refl _ _).alloc (Nat.le_refl _) _, heap_alloc_new w _⟩
  have SN := Mr.hid (fun (W : World) (hK : K3 w W (.int .i64 (nth : Int)) (.slice a n cap) (.slice am nm cm)) => (hs.below hK.1).news.2)
  have ha := Mr.hid hs.news.1
  replace K0 := Mr.hid K0
  replace o4 := Mr.hid o4
  replace e4 := Mr.hid e4
  replace hl := Mr.hid hl
  replace hs := Mr.hid hs
  replace hm := Mr.hid hm
  go_enter Try.func5, Try.ntmps5
  go_upto_region 3 with (first
    | (go_at_call 11; refine (awake_any _).mono ?_; rintro e w1 ⟨rfl, hB1⟩; have K1 := Mr.hid (K0.out.below hB1); clear hB1 K0)
    | fail)
  obtain ⟨f0, f1, f2, hw1⟩ := K1.out.cells
  have KE := Mr.hid (K1.out.below (Below.refl _ _).drew)
  go_cut [5, 6] (fun s5 s6 wx => ∃ (q1 : Ph) (U1 : Nat → Prop) (k0 k1 : Nat), s5 = .pointer (some ⟨q1.b, 0, none⟩) ∧ s6 = .int .i64 0 ∧ Lv wx U1 k0 k1 q1 (Pm.new nth ws) ∧ w.heap.size < k0 ∧ k0 ≤ k1 ∧ K3 w wx (.int .i64 (nth : Int)) (.slice a n cap) (.slice am nm cm))
  case first =>
    go_wp2
    go_region_held3 (fun w' => w'.cell? ⟨w.heap.size, 0, none⟩ = some (.int .i64 (nth : Int)) ∧ w'.cell? ⟨w.heap.size, 1, none⟩ = some (.slice a n cap)) (first | exact ⟨KN.out.cells.1, KN.out.cells.2.1⟩ | exact ⟨KO.out.cells.1, KO.out.cells.2.1⟩ | exact ⟨KA.out.cells.1, KA.out.cells.2.1⟩ | exact ⟨KE.out.cells.1, KE.out.cells.2.1⟩ | go_keep)
      (first
        | (refine step_append_fresh _ rfl (.const (.slice none 0 0)) (.tmp 27) 22 rfl (fun _ => True) 59 i4 _ 1 8 Try.underlying22 t1 t2 t3 t4 rfl rfl a n cap (wrd ws) (by first | rfl | simp [Act.eval]) e4.out ha.out (SN.out _ (by first | exact KO.out | exact KE.out)) o4.out (by unfold maxLen; omega) (by omega) trivial ?_; intro v0 wa hv0 hg0 hk0; clear hk0; have hBa := (Below.refl _ _).grown hg0 (Nat.le_refl _) (fun k hk => by cases hk); have KA : K3 w wa (.int .i64 (nth : Int)) (.slice a n cap) (.slice am nm cm) := (by first | exact KO.out.below hBa | exact KE.out.below hBa); replace KA := Mr.hid KA; obtain ⟨p0, q0, rfl, _⟩ := hv0.form; have HV := Mr.hid hv0; (try (have HK2 := Mr.hid (HK.out.kept (fun k hk => hBa.block k hk.2)))); (try (have hao := hBa.size)); clear hg0 hBa hv0)
        | (go_at_call 10; refine (own_any n _).mono ?_; rintro e wo ⟨rfl, hK, hBo⟩; have KO : K3 w wo (.int .i64 (nth : Int)) (.slice a n cap) (.slice am nm cm) := (by first | exact KA.out.below hBo | exact KE.out.below hBo); replace KO := Mr.hid KO; have HK := (show Kt wo _ _ ws.length _ _ _ _ by rw [← hl.out]; exact hK); replace HK := Mr.hid HK; have hko : w.heap.size < _ ∧ _ := (by first | exact ⟨KA.out.cells.2.2.2, hBo.size⟩ | exact ⟨KE.out.cells.2.2.2, hBo.size⟩); (try (have HV2 := Mr.hid (HV.out.below hBo))); clear hK hBo)
        | (go_at_call 8; refine (newM_any _ nth h1 h2 p0 n q0 ws (by first | exact src_has HV2.out hl.out | exact src_has HV.out hl.out) hn (by first | exact HK2.out | exact HK.out) (fun k hk => by have := hk.2; omega)).mono ?_; rintro e wn ⟨q1, U1, rfl, hR, hvs, hU, hBn⟩; have LL := Mr.hid (Lv.mk hR (fun k hk => by have := hU k hk; omega) hvs); have KN := Mr.hid (by first | exact KO.out.below hBn | exact KA.out.below hBn); clear hR hU hBn hvs))
    all_goals go_wp2
    all_goals go_meet
    all_goals exact ⟨q1, U1, _, _, rfl, rfl, LL.out, hko.1, hko.2, KN.out⟩
  case rest =>
    obtain ⟨q1, U1, k0, k1, rfl, rfl, LL, e1, e2, KX⟩ := hcut
    go_step
    exact moves_A3 LL e1 e2 KX h1 h2 hs.out hn hm.out z2 ask
theorem moves_law (th : Int) (a : Option Addr) (n cap : Nat) (ws : List Int) (am : Option Addr) (nm cm : Nat) (ms : List Mv) (ask : Int) (w : World) (hs : Src w a n cap ws) (hm : MvAt w am nm ms) (_ : n ≤ cap) (_ : nm ≤ cm) (z1 : n * 8 ≤ 140737488351232) (z2 : nm * 32 ≤ 140737488351232) {p : Prop} (_ : p) :
    Calls Try.prog 5 #[.agg #[.int .i64 th, .slice a n cap, .slice am nm cm], .int .i64 ask] w fun e w' => e = .returned (.bool true) ∧ Below w.heap.size w w' := by
  by_cases hth : th < 1 ∨ 16 < th
  · exact moves_cfg th hth a n cap ws am nm cm ms ask w hs hm z1
  · obtain ⟨nth, rfl⟩ : ∃ nth : Nat, th = nth := ⟨th.toNat, by omega⟩
    by_cases hn : 8192 < n
    · exact moves_long nth (by omega) (by omega) a n cap ws am nm cm ms ask w hs hm z1 hn
    · exact moves_ok nth (by omega) (by omega) a n cap ws am nm cm ms ask w hs hm z1 (by omega) z2
end Go.Proofs.Ytglppcoohojmpaa.Rf
