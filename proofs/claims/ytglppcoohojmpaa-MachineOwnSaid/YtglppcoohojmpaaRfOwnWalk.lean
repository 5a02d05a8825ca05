import Derived.Test.YtglppcoohojmpaaRfOwn7
import Derived.Test.YtglppcoohojmpaaJ16
import Derived.Test.YtglppcoohojmpaaJ15
import Derived.Deep.RegionHeld3
/-
  MachineOwn: the whole.
-/
namespace Go.Proofs.Ytglppcoohojmpaa.Rf
open Go.RowKit Go.Shelf Mr Me Ma
set_option linter.unusedVariables false
theorem src_has' {W : World} {S : Nat → Prop} {p : Option Addr} {n q : Nat} {ws : List Int} (h : Has W S 59 1 (.slice p n q) n (wrd ws)) (hl : n = ws.length) : Src W p n q ws := by
  subst hl
  obtain ⟨a, c, e, hs⟩ := Src.of_has h
  cases e
  exact hs
theorem k3_store {w W : World} {x y z : Value} (h : K3 w W x y z) (x' y' z' : Value) : K3 w (((W.setCell ⟨w.heap.size, 0, none⟩ x').setCell ⟨w.heap.size, 1, none⟩ y').setCell ⟨w.heap.size, 2, none⟩ z') x' y' z' := by
  refine ⟨((h.1.setCell (p := ⟨w.heap.size, 0, none⟩) (Nat.le_refl _) _).setCell (p := ⟨w.heap.size, 1, none⟩) (Nat.le_refl _) _).setCell (p := ⟨w.heap.size, 2, none⟩) (Nat.le_refl _) _, ?_⟩
  rw [setBlk (setBlk (setBlk h.2 0 _) 1 _) 2 _]
  rfl
theorem Play_rwD (w : World) (nth : Nat) (h1 : 1 ≤ nth) (h2 : nth ≤ 16) (a : Option Addr) (n cap : Nat) (ws : List Int) (hs : Src w a n cap ws) (hn : n ≤ 8192) (am : Option Addr) (nm cm : Nat) (ms : List Mv) (hm : MvAt w am nm ms) (hnm : nm ≤ 65536) :
    Calls Try.prog 22 #[.int .i64 (nth : Int), .slice a n cap, .slice am nm cm] w fun e w' => ∃ v1 v2 v4, e = .returned (.tuple #[.agg #[v1, v2, .slice none 0 0, v4], .int .i64 0]) ∧ Rw w' (itv w.heap.size w'.heap.size) v1 v2 (.slice none 0 0) v4 ((Pm.new nth ws).play ms).cls ((Pm.new nth ws).play ms).lg [] ((Pm.new nth ws).play ms).ws ∧ Below w.heap.size w w' := by
  refine (Play_ok w nth h1 h2 a n cap ws hs hn am nm cm ms hm hnm).mono ?_
  rintro e w' ⟨v1, v2, v4, rfl, h1, h2, h4, hB⟩
  have up : ∀ {e sz n : Nat} {v : Value} {xs : List Value}, Has w' (fun k => w.heap.size ≤ k) e sz v n xs → Has w' (itv w.heap.size w'.heap.size) e sz v n xs := fun hh => hh.kept (fun _ _ => rfl) (fun k hk => ⟨(hh.lt k hk).1, (hh.lt k hk).2⟩)
  exact ⟨v1, v2, v4, rfl, ⟨up h1, up h2, Has.nil _ _ _ _, up h4⟩, hB⟩
set_option maxRecDepth 100000 in
set_option maxHeartbeats 8000000 in
theorem own_law (th : Int) (a : Option Addr) (n0 cap : Nat) (ws0 : List Int) (am : Option Addr) (nm0 cm : Nat) (ms0 : List Mv) (w : World) (hs0 : Src w a n0 cap ws0) (hm0 : MvAt w am nm0 ms0) (hn0 : n0 ≤ cap) (hnm0 : nm0 ≤ cm) :
    Calls Try.prog 6 #[.agg #[.int .i64 th, .slice a n0 cap, .slice am nm0 cm]] w fun e w' => e = .returned (.bool true) ∧ Below w.heap.size w w' := by
  obtain ⟨h1, h2⟩ := fitT_pos th
  have FT := fun (W' : World) => fit_any W' th a n0 cap am nm0 cm hn0 hnm0 (fun h => by rcases hs0.2 with ⟨_, h0, _⟩ | ⟨ad, e, _⟩; omega; exact ⟨ad, e⟩) (fun h => by rcases hm0.2 with h0 | ⟨b, o, e, _⟩; (have := hm0.1; rw [h0] at this; simp at this; omega); exact ⟨_, e⟩)
  have hs := src_take hs0 8192
  have hm := hm0.take 65536
  have hn : min n0 8192 ≤ 8192 := Nat.min_le_right _ _
  have hnm : min nm0 65536 ≤ 65536 := Nat.min_le_right _ _
  clear hs0 hm0
  generalize min n0 8192 = n at *
  generalize min nm0 65536 = nm at *
  generalize ws0.take 8192 = ws at *
  generalize ms0.take 65536 = ms at *
  generalize fitT th = nth at *
  obtain ⟨i4, t1, t2, t3, t4⟩ := info_parts info_u64'
  have hl := hs.1
  have o4 : ∀ u ∈ wrd ws, u.oneCell' = true := by
    intro u hu
    obtain ⟨x, _, rfl⟩ := List.mem_map.1 hu
    rfl
  have e4 : (wrd ws).length = n * 1 := by simp [wrd, hl]
  have K0 : K3 w (w.alloc (.cells #[.int .i64 th, .slice a n0 cap, .slice am nm0 cm] 25)) (.int .i64 th) (.slice a n0 cap) (.slice am nm0 cm) := ⟨(Below.refl _ _).alloc (Nat.le_refl _) _, heap_alloc_new w _⟩
  have FT0 := Mr.hid (FT (w.alloc (.cells #[.int .i64 th, .slice a n0 cap, .slice am nm0 cm] 25)))
  have SN := Mr.hid (fun (W : World) (hK : K3 w W (.int .i64 (nth : Int)) (.slice a n cap) (.slice am nm cm)) => (hs.below hK.1).news.2)
  have PLY := Mr.hid (fun (W : World) (hK : K3 w W (.int .i64 (nth : Int)) (.slice a n cap) (.slice am nm cm)) => Play_rwD W nth h1 h2 a n cap ws (hs.below hK.1) hn am nm cm ms (hm.below hK.1) hnm)
  have ha := Mr.hid hs.news.1
  replace K0 := Mr.hid K0
  replace o4 := Mr.hid o4
  replace e4 := Mr.hid e4
  replace hl := Mr.hid hl
  replace hs := Mr.hid hs
  replace hm := Mr.hid hm
  clear FT hn0 hnm0
  go_enter Try.func6, Try.ntmps6
  go_upto_region 2 with (first
    | (go_at_call 7; refine FT0.out.mono ?_; clear FT0; rintro e w1 ⟨rfl, hB1⟩; have K1 := K0.out.below hB1; obtain ⟨f0, f1, f2, hw1⟩ := K1.cells; have fz : ∀ j, w1.frozen? ⟨w.heap.size, j, none⟩ = false := (fun j => by simp [World.frozen?, K1.2]); have K2 := Mr.hid (k3_store K1 (.int .i64 (nth : Int)) (.slice a n cap) (.slice am nm cm)); clear K1 hB1 K0)
    | fail)
  generalize ((w1.setCell ⟨w.heap.size, 0, none⟩ (.int .i64 (nth : Int))).setCell ⟨w.heap.size, 1, none⟩ (.slice a n cap)).setCell ⟨w.heap.size, 2, none⟩ (.slice am nm cm) = W2 at *
  clear f0 f1 f2 fz hw1
  go_upto_region 4 with (first
    | (go_at_call 11; refine (awake_any _).mono ?_; rintro e w3 ⟨rfl, hB3⟩; have K3' := Mr.hid (K2.out.below hB3); clear hB3 K2)
    | fail)
  obtain ⟨f0, f1, f2, hw3⟩ := K3'.out.cells
  have P3 := Mr.hid (PLY.out w3 K3'.out)
  go_upto_region 5 with (first
    | (go_at_call 22; refine P3.out.mono ?_; clear P3; rintro e w4 ⟨c1, c2, c4, rfl, RC, hB4⟩; obtain ⟨⟨pc1, Nc1, qc1, rfl⟩, ⟨pc2, Nc2, qc2, rfl⟩, _, ⟨pc4, Nc4, qc4, rfl⟩⟩ := RC.forms; replace RC := Mr.hid RC; replace hB4 := Mr.hid hB4; clear f0 f1 f2)
    | fail)
  have A4 := (Below.refl w4.heap.size w4).alloc (Nat.le_refl _) (.cells #[.slice pc1 Nc1 qc1, .slice pc2 Nc2 qc2, .slice none 0 0, .slice pc4 Nc4 qc4] 53)
  have H3 := RC.out.box
  have z4 := hB4.out.size
  have K4 := K3'.out.below (hB4.out.trans (A4.mono hB4.out.size))
  have hs5 : (w4.alloc (.cells #[.slice pc1 Nc1 qc1, .slice pc2 Nc2 qc2, .slice none 0 0, .slice pc4 Nc4 qc4] 53)).heap.size = w4.heap.size + 1 := by simp
  generalize w4.alloc (.cells #[.slice pc1 Nc1 qc1, .slice pc2 Nc2 qc2, .slice none 0 0, .slice pc4 Nc4 qc4] 53) = W4 at *
  have hB3 : w.heap.size < w4.heap.size := by omega
  have ht3 : w4.heap.size ≤ w4.heap.size := Nat.le_refl _
  obtain ⟨f0, f1, f2, hw4⟩ := K4.cells
  have SN4 := Mr.hid (SN.out W4 K4)
  replace K4 := Mr.hid K4
  replace H3 := Mr.hid H3
  clear A4 RC hB4 K3' SN PLY
  go_upto_region 6 with (first
    | (at_builtin; refine wpList_append_fresh _ rfl (.const (.slice none 0 0)) (.tmp 35) 22 rfl (fun k => W4.heap.size ≤ k) 59 i4 _ 1 8 Try.underlying22 t1 t2 t3 t4 rfl rfl a n cap (wrd ws) (by first | rfl | simp [Act.eval]) e4.out ha.out SN4.out o4.out (by unfold maxLen; omega) (by omega) (Nat.le_refl _) ?_; intro v0 wa hv0 hg0 hk0; clear hk0; have hBa : Below W4.heap.size W4 wa := (Below.refl _ _).grown hg0 (Nat.le_refl _) (fun k hk => by cases hk); obtain ⟨p0, q0, rfl, _⟩ := hv0.form; have KA := Mr.hid (K4.out.below hBa); have HA := Mr.hid (H3.out.below hBa); have V := Mr.hid (hv0.kept (T := itv W4.heap.size wa.heap.size) (fun _ _ => rfl) (fun k hk => ⟨(hv0.lt k hk).1, (hv0.lt k hk).2⟩)); have za := hBa.size; clear hg0 hv0 hBa f0 f1 f2 K4 H3 SN4)
    | fail)
  obtain ⟨f0, f1, f2, hwa⟩ := KA.out.cells
  have KE := Mr.hid (KA.out.below (Below.refl _ _).drew)
  have OW := Mr.hid (own_any n wa.drew)
  have FNW := Mr.hid (fun (w6 : World) (hB : Below wa.heap.size wa w6) => (show K3 w w6 (.int .i64 (nth : Int)) (.slice a n cap) (.slice am nm cm) ∧ Has w6 (itv W4.heap.size wa.heap.size) 59 1 (.slice p0 n q0) n (wrd ws) ∧ Rx w6 w4.heap.size (itv w3.heap.size w4.heap.size) (.slice pc1 Nc1 qc1) (.slice pc2 Nc2 qc2) (.slice none 0 0) (.slice pc4 Nc4 qc4) ((Pm.new nth ws).play ms).cls ((Pm.new nth ws).play ms).lg [] ((Pm.new nth ws).play ms).ws from ⟨KA.out.below hB, V.out.below hB, HA.out.below hB⟩))
  go_cut [6, 7] (fun s6 s7 wx => ∃ (q : Ph) (U : Nat → Prop) (k1 : Nat), s6 = .pointer (some ⟨q.b, 0, none⟩) ∧ s7 = .int .i64 0 ∧ Lv wx U wa.heap.size k1 q (Pm.new nth ws) ∧ wa.heap.size ≤ k1 ∧ Below wa.heap.size wa wx)
  case first =>
    go_wp2
    go_region_held3 (fun w' => w'.cell? ⟨w.heap.size, 0, none⟩ = some (.int .i64 (nth : Int))) (first | exact KN.out.cells.1 | exact KO.out.cells.1 | exact KE.out.cells.1 | go_keep)
      (first
        | (go_at_call 10; refine OW.out.mono ?_; rintro e wo ⟨rfl, hK, hBo⟩; have KO := Mr.hid (KE.out.below hBo); have HK := (show Kt wo _ _ ws.length _ _ _ _ by rw [← hl.out]; exact hK); replace HK := Mr.hid HK; have hBo' : Below wa.heap.size wa wo := ((Below.refl _ _).drew.trans hBo); have VO := Mr.hid (src_has' (FNW.out wo hBo').2.1 hl.out); have zo := hBo'.size; replace hBo' := Mr.hid hBo'; clear hK hBo)
        | (go_at_call 8; refine (newM_any _ nth h1 h2 p0 n q0 ws VO.out hn HK.out (fun k hk => hk.2)).mono ?_; rintro e wn ⟨q, U, rfl, hR, hvs, hU, hBn⟩; have LL := Mr.hid (Lv.mk hR (fun k hk => hU k hk) hvs); have KN := Mr.hid (KO.out.below hBn); have BN := Mr.hid (hBo'.out.trans (hBn.mono hBo'.out.size)); clear hR hU hBn hvs))
    all_goals go_wp2
    all_goals go_meet
    all_goals exact ⟨q, U, _, rfl, rfl, LL.out, zo, BN.out⟩
  case rest =>
    obtain ⟨q, U, k1, rfl, rfl, LL, zk, BN⟩ := hcut
    replace LL := Mr.hid LL
    replace BN := Mr.hid BN
    go_upto_region 7 with fail
    rename (∀ (a : Act) (w : World), Code.wp _ (Code.seq _ _) _ a w → _) => hK1
    replace hK1 := Mr.hid hK1
    go_wp2
    refine hK1.out _ _ ?_
    obtain ⟨KX, VX, HX⟩ := FNW.out wc BN.out
    exact own_7 KX LL.out h1 h2 hs.out hn hm.out hnm hB3 ht3 (by omega) za (Nat.le_refl _) zk VX HX
end Go.Proofs.Ytglppcoohojmpaa.Rf
