import Derived.Test.YtfhkgeoionkonaaGreatDoorJ27
/-
  SCRIPT: ScriptLines.
-/
namespace Go.Proofs.YtfhkgeoionkonaaGreatDoor.Sc
open Go.RowKit Mr
set_option linter.unusedVariables false
set_option linter.unusedSimpArgs false
set_option maxRecDepth 100000
set_option maxHeartbeats 32000000 in
theorem scriptLines_any (a0 a1 a2 a3 a4 a5 a6 : Int) (a : Option Addr) (n cap : Nat) (ms : List Mv) (bh : ByteArray) (hbh : bh.size ≤ 281474976710656) (w : World) (V : EnvX w) (hM : MvAt w a n ms) (hcap : n ≤ cap) (hm : ∀ m ∈ ms, MvB m) :
    Calls Tryz.prog 4 #[.agg #[.int .i64 a0, .int .i64 a1, .int .i64 a2, .int .i64 a3, .int .i64 a4, .int .i64 a5, .int .i64 a6], .slice a n cap, .string bh] w fun e w' => e = .returned (.bool true) ∧ Below w.heap.size w w' := by
  have E := V.env
  have RC := Mr.hid (fun W => Wc.refConfig a0 a1 a2 a3 a4 a5 a6 W)
  have AW := Mr.hid (fun W (hB : Below w.heap.size w W) => awake_any W (E.below hB))
  have SM := Mr.hid (fun W => small_any W)
  have hM' := Mr.hid (fun W (hB : Below w.heap.size w W) => hM.below hB)
  have hln := hM.1
  have PR := Mr.hid (fun x0 x1 x2 x3 x4 x5 x6 n1 (hc : Wc.cfgB x0 x1 x2 x3 x4 x5 x6 = true) (h1 : n1 ≤ n) (h2 : n1 ≤ 500) W (hB : Below w.heap.size w W) => print_cut x0 x1 x2 x3 x4 x5 x6 a n n1 cap ms W (E.below hB) (hM'.out W hB) hm hc h1 (Nat.le_trans h1 hcap) (Nat.le_trans h2 (by decide)))
  replace hm := Mr.hid hm
  replace V := Mr.hid V
  replace hln := Mr.hid hln
  clear hM E
  have B0 : Hid (Below w.heap.size w (w.alloc (.cells #[.int .i64 a0, .int .i64 a1, .int .i64 a2, .int .i64 a3, .int .i64 a4, .int .i64 a5, .int .i64 a6] 23 (0, 0)))) := (Below.refl _ _).alloc (Nat.le_refl _) _
  go_enter Tryz.func4, Tryz.ntmps4
  go_upto_region 1 with fail
  go_cut [24] (fun t wc => t = .bool (!Wc.cfgB a0 a1 a2 a3 a4 a5 a6) ∧ wc.heap[w.heap.size]? = some (.cells #[.int .i64 a0, .int .i64 a1, .int .i64 a2, .int .i64 a3, .int .i64 a4, .int .i64 a5, .int .i64 a6] 23 (0, 0)) ∧ Below w.heap.size w wc)
  case first =>
    go_wp2_with (go_at_call 13; refine (RC.out _).mono ?_; clear RC; rintro e w1 ⟨rfl, B1⟩; replace B1 := Mr.hid B1)
    go_meet
    case rel => exact ⟨by simp, (B1.out.block _ (by simp)).trans (new_at _ _ _ rfl), B0.out.trans (B1.out.mono (by simp))⟩
  case rest =>
    obtain ⟨rfl, hbx, hBB⟩ := hcut
    clear RC B0
    go_upto_if 24 with fail
    go_cut [] (fun wc => ∃ x0 x1 x2 x3 x4 x5 x6 : Int, Wc.cfgB x0 x1 x2 x3 x4 x5 x6 = true ∧ wc.heap[w.heap.size]? = some (.cells #[.int .i64 x0, .int .i64 x1, .int .i64 x2, .int .i64 x3, .int .i64 x4, .int .i64 x5, .int .i64 x6] 23 (0, 0)) ∧ Below w.heap.size w wc)
    case first =>
      cases hbad : Wc.cfgB a0 a1 a2 a3 a4 a5 a6 with
      | false =>
        have lb := (Array.getElem?_eq_some_iff.1 hbx).1
        replace hbx := Mr.hid hbx
        replace hBB := Mr.hid hBB
        go_wp2_with (go_at_call 14; refine (SM.out _).mono ?_)
        clear SM
        rintro e w2 ⟨rfl, B2⟩
        have hbx2 : w2.heap[w.heap.size]? = some (.cells #[.int .i64 a0, .int .i64 a1, .int .i64 a2, .int .i64 a3, .int .i64 a4, .int .i64 a5, .int .i64 a6] 23 (0, 0)) := (B2.block _ lb).trans hbx.out
        have BB2 : Below w.heap.size w w2 := hBB.out.trans (B2.mono hBB.out.size)
        have k0 := cell_blk hbx2 0
        have k1 := cell_blk hbx2 1
        have k2 := cell_blk hbx2 2
        have k3 := cell_blk hbx2 3
        have k4 := cell_blk hbx2 4
        have k5 := cell_blk hbx2 5
        have k6 := cell_blk hbx2 6
        have fz : ∀ k, w2.frozen? ⟨w.heap.size, k, none⟩ = false := fun k => by simp [World.frozen?, hbx2]
        have l2 := (Array.getElem?_eq_some_iff.1 hbx2).1
        have R2 := Mr.hid (And.intro hbx2 BB2)
        clear B2 hbx2 BB2 hbx hBB
        go_wp2
        go_meet
        case rel =>
          obtain ⟨hbx2, BB2⟩ := R2.out
          exact ⟨2, 2, 3, 1, 0, 4, 1, by decide, (setBlk (setBlk (setBlk (setBlk (setBlk (setBlk (setBlk hbx2 0 (.int .i64 2)) 1 (.int .i64 2)) 2 (.int .i64 3)) 3 (.int .i64 1)) 4 (.int .i64 0)) 5 (.int .i64 4)) 6 (.int .i64 1)).trans rfl, (((((((BB2.setCell (p := ⟨w.heap.size, 0, none⟩) (Nat.le_refl _) (.int .i64 2)).setCell (p := ⟨w.heap.size, 1, none⟩) (Nat.le_refl _) (.int .i64 2)).setCell (p := ⟨w.heap.size, 2, none⟩) (Nat.le_refl _) (.int .i64 3)).setCell (p := ⟨w.heap.size, 3, none⟩) (Nat.le_refl _) (.int .i64 1)).setCell (p := ⟨w.heap.size, 4, none⟩) (Nat.le_refl _) (.int .i64 0)).setCell (p := ⟨w.heap.size, 5, none⟩) (Nat.le_refl _) (.int .i64 4)).setCell (p := ⟨w.heap.size, 6, none⟩) (Nat.le_refl _) (.int .i64 1))⟩
      | true =>
        replace hbx := Mr.hid hbx
        replace hBB := Mr.hid hBB
        go_wp2
        go_meet
        case rel => exact ⟨a0, a1, a2, a3, a4, a5, a6, hbad, hbx.out, hBB.out⟩
    case rest =>
      obtain ⟨x0, x1, x2, x3, x4, x5, x6, hcf, hbx, hBB⟩ := hcut
      replace hbx := Mr.hid hbx
      replace hBB := Mr.hid hBB
      clear SM
      go_upto_region 3 with fail
      go_upto_if 28 with fail
      go_cut [1] (fun s1 wq => ∃ n1 : Nat, s1 = .slice a n1 cap ∧ n1 ≤ n ∧ n1 ≤ 500 ∧ wq.heap[w.heap.size]? = some (.cells #[.int .i64 x0, .int .i64 x1, .int .i64 x2, .int .i64 x3, .int .i64 x4, .int .i64 x5, .int .i64 x6] 23 (0, 0)) ∧ Below w.heap.size w wq)
      case first =>
        by_cases hcut : n ≤ 500
        · have d0 : decide ((500 : Int) < (n : Int)) = false := decide_eq_false (by omega)
          have d1 : ¬ (500 : Int) < (n : Int) := by omega
          go_wp2
          go_meet
          case rel => exact ⟨n, rfl, Nat.le_refl _, hcut, hbx.out, hBB.out⟩
        · have d0 : decide ((500 : Int) < (n : Int)) = true := decide_eq_true (by omega)
          have d1 : (500 : Int) < (n : Int) := by omega
          have d2 : (500 : Int) ≤ (cap : Int) := by omega
          go_wp2
          go_meet
          case rel => exact ⟨500, rfl, by omega, Nat.le_refl _, hbx.out, hBB.out⟩
      case rest =>
        obtain ⟨n1, rfl, hn1, hn2, hbx3, hBB3⟩ := hcut
        clear hbx hBB
        have P3 := Mr.hid (PR.out x0 x1 x2 x3 x4 x5 x6 n1 hcf hn1 hn2 _ hBB3)
        have TX := Mr.hid (text_cut x0 x1 x2 x3 x4 x5 x6 n n1 ms hcf hln.out hm.out hn1 (Nat.le_trans hn2 (by decide)))
        have x0_ := cell_blk hbx3 0
        have x1_ := cell_blk hbx3 1
        have x2_ := cell_blk hbx3 2
        have x3_ := cell_blk hbx3 3
        have x4_ := cell_blk hbx3 4
        have x5_ := cell_blk hbx3 5
        have x6_ := cell_blk hbx3 6
        have l3 := (Array.getElem?_eq_some_iff.1 hbx3).1
        replace hbx3 := Mr.hid hbx3
        replace hBB3 := Mr.hid hBB3
        clear PR
        generalize hL : prints [x0, x1, x2, x3, x4, x5, x6] (ms.take n1) = L at *
        replace hL := Mr.hid hL
        go_upto_region 6 with (go_at_call 11; refine P3.out.mono ?_; clear P3; rintro e w4 ⟨rfl, B4⟩)
        have BB4 : Below w.heap.size w w4 := hBB3.out.trans (B4.mono hBB3.out.size)
        have hbx4 : Hid (w4.heap[w.heap.size]? = some (.cells #[.int .i64 x0, .int .i64 x1, .int .i64 x2, .int .i64 x3, .int .i64 x4, .int .i64 x5, .int .i64 x6] 23 (0, 0))) := (B4.block _ l3).trans hbx3.out
        have A4 := Mr.hid (AW.out w4 BB4)
        have l4 : w.heap.size < w4.heap.size := Nat.lt_of_lt_of_le l3 B4.size
        replace BB4 := Mr.hid BB4
        clear x0_ x1_ x2_ x3_ x4_ x5_ x6_ hbx3 hBB3 B4 AW l3
        go_upto_region 10 with (go_at_call 10; refine A4.out.mono ?_; clear A4; rintro e w5 ⟨rfl, B5⟩)
        have BB5 : Below w.heap.size w w5 := BB4.out.trans (B5.mono BB4.out.size)
        have hbx5 : w5.heap[w.heap.size]? = some (.cells #[.int .i64 x0, .int .i64 x1, .int .i64 x2, .int .i64 x3, .int .i64 x4, .int .i64 x5, .int .i64 x6] 23 (0, 0)) := (B5.block _ l4).trans hbx4.out
        clear BB4 B5 hbx4 l4
        obtain ⟨hLl, hcd, hm1, hl1⟩ := TX.out
        have hszL : (⟨L.toArray⟩ : ByteArray).size = L.length := sz_list L
        obtain ⟨K, hK⟩ : ∃ K, nls L = K := ⟨_, rfl⟩
        have hKl : K ≤ L.length := by rw [← hK]; exact List.count_le_length
        obtain ⟨X, hX⟩ : ∃ X : ByteArray, X = ⟨L.toArray⟩ := ⟨_, rfl⟩
        have hget : Hid (∀ i (h : i < X.size) (h2 : i < L.length), X[i].toNat = L[i].toNat) := fun i h h2 => by subst hX; rfl
        rw [← hX] at hszL ⊢
        have PA1 : Hid (¬ 1048576 < L.length + bh.size + 20 → ∀ W, Below w.heap.size w W → Calls Tryz.prog 9 #[.string (X ++ ⟨#[48, 32, 112, 117, 115, 104, 10]⟩ ++ bh)] W fun e w' => e = .returned (.tuple #[.agg #[.int .i64 0, .int .i64 0, .int .i64 0, .int .i64 0, .int .i64 0, .int .i64 0, .int .i64 0], .slice none 0 0, .int .i64 ((K : Int) + 1), .int .i64 170]) ∧ Below W.heap.size W w') := by
          intro hle W hB
          have hb := sz_list bh.data.toList
          have hbe : bh = ⟨bh.data.toList.toArray⟩ := by simp
          have hbl : bh.data.toList.length = bh.size := by rw [← hb, ← hbe]
          have e0 : (X ++ ⟨#[48, 32, 112, 117, 115, 104, 10]⟩ ++ bh : ByteArray) = ⟨(L ++ ([48, 32, 112, 117, 115, 104] ++ 10 :: bh.data.toList)).toArray⟩ := by
            rw [hX]
            have e1 : (⟨L.toArray⟩ ++ ⟨#[48, 32, 112, 117, 115, 104, 10]⟩ : ByteArray) = ⟨(L ++ [48, 32, 112, 117, 115, 104, 10]).toArray⟩ := cat_list _ _
            have e2 : (⟨(L ++ [48, 32, 112, 117, 115, 104, 10]).toArray⟩ ++ ⟨bh.data.toList.toArray⟩ : ByteArray) = ⟨((L ++ [48, 32, 112, 117, 115, 104, 10]) ++ bh.data.toList).toArray⟩ := cat_list _ _
            rw [e1]
            rw [← hbe] at e2
            rw [e2]
            simp
          have hp := bad_1 ⟨x0, x1, x2, x3, x4, x5, x6⟩ (ms.take n1) bh.data.toList hcd hm1 (by omega) (by unfold cfL; dsimp only; rw [hL.out]; simp only [List.length_append, List.length_cons, List.length_nil]; omega)
          unfold cfL at hp
          dsimp only at hp
          rw [hL.out, hK] at hp
          have := Parse_err _ _ _ W (V.out.env.below hB) (V.out.et.below hB) hp
          unfold PeA cfV cfZ at this
          dsimp only at this
          rw [e0]
          have eK : ((1 + K : Nat) : Int) = (K : Int) + 1 := by omega
          rw [eK] at this
          exact this
        have PA2 : Hid (¬ 1048576 < L.length + bh.size + 20 → ∀ W, Below w.heap.size w W → Calls Tryz.prog 9 #[.string (X ++ ⟨#[48, 32, 112, 117, 115, 104, 32, 48, 53, 10]⟩ ++ bh)] W fun e w' => e = .returned (.tuple #[.agg #[.int .i64 0, .int .i64 0, .int .i64 0, .int .i64 0, .int .i64 0, .int .i64 0, .int .i64 0], .slice none 0 0, .int .i64 ((K : Int) + 1), .int .i64 171]) ∧ Below W.heap.size W w') := by
          intro hle W hB
          have hb := sz_list bh.data.toList
          have hbe : bh = ⟨bh.data.toList.toArray⟩ := by simp
          have hbl : bh.data.toList.length = bh.size := by rw [← hb, ← hbe]
          have e0 : (X ++ ⟨#[48, 32, 112, 117, 115, 104, 32, 48, 53, 10]⟩ ++ bh : ByteArray) = ⟨(L ++ ([48, 32, 112, 117, 115, 104, 32, 48, 53] ++ 10 :: bh.data.toList)).toArray⟩ := by
            rw [hX]
            have e1 : (⟨L.toArray⟩ ++ ⟨#[48, 32, 112, 117, 115, 104, 32, 48, 53, 10]⟩ : ByteArray) = ⟨(L ++ [48, 32, 112, 117, 115, 104, 32, 48, 53, 10]).toArray⟩ := cat_list _ _
            have e2 : (⟨(L ++ [48, 32, 112, 117, 115, 104, 32, 48, 53, 10]).toArray⟩ ++ ⟨bh.data.toList.toArray⟩ : ByteArray) = ⟨((L ++ [48, 32, 112, 117, 115, 104, 32, 48, 53, 10]) ++ bh.data.toList).toArray⟩ := cat_list _ _
            rw [e1]
            rw [← hbe] at e2
            rw [e2]
            simp
          have hp := bad_2 ⟨x0, x1, x2, x3, x4, x5, x6⟩ (ms.take n1) bh.data.toList hcd hm1 (by omega) (by unfold cfL; dsimp only; rw [hL.out]; simp only [List.length_append, List.length_cons, List.length_nil]; omega)
          unfold cfL at hp
          dsimp only at hp
          rw [hL.out, hK] at hp
          have := Parse_err _ _ _ W (V.out.env.below hB) (V.out.et.below hB) hp
          unfold PeA cfV cfZ at this
          dsimp only at this
          rw [e0]
          have eK : ((1 + K : Nat) : Int) = (K : Int) + 1 := by omega
          rw [eK] at this
          exact this
        have PA3 : Hid (¬ 1048576 < L.length + bh.size + 20 → ∀ W, Below w.heap.size w W → Calls Tryz.prog 9 #[.string (X ++ ⟨#[48, 32, 46, 32, 48, 10]⟩ ++ bh)] W fun e w' => e = .returned (.tuple #[.agg #[.int .i64 0, .int .i64 0, .int .i64 0, .int .i64 0, .int .i64 0, .int .i64 0, .int .i64 0], .slice none 0 0, .int .i64 ((K : Int) + 1), .int .i64 2]) ∧ Below W.heap.size W w') := by
          intro hle W hB
          have hb := sz_list bh.data.toList
          have hbe : bh = ⟨bh.data.toList.toArray⟩ := by simp
          have hbl : bh.data.toList.length = bh.size := by rw [← hb, ← hbe]
          have e0 : (X ++ ⟨#[48, 32, 46, 32, 48, 10]⟩ ++ bh : ByteArray) = ⟨(L ++ ([48, 32, 46, 32, 48] ++ 10 :: bh.data.toList)).toArray⟩ := by
            rw [hX]
            have e1 : (⟨L.toArray⟩ ++ ⟨#[48, 32, 46, 32, 48, 10]⟩ : ByteArray) = ⟨(L ++ [48, 32, 46, 32, 48, 10]).toArray⟩ := cat_list _ _
            have e2 : (⟨(L ++ [48, 32, 46, 32, 48, 10]).toArray⟩ ++ ⟨bh.data.toList.toArray⟩ : ByteArray) = ⟨((L ++ [48, 32, 46, 32, 48, 10]) ++ bh.data.toList).toArray⟩ := cat_list _ _
            rw [e1]
            rw [← hbe] at e2
            rw [e2]
            simp
          have hp := bad_3 ⟨x0, x1, x2, x3, x4, x5, x6⟩ (ms.take n1) bh.data.toList hcd hm1 (by omega) (by unfold cfL; dsimp only; rw [hL.out]; simp only [List.length_append, List.length_cons, List.length_nil]; omega)
          unfold cfL at hp
          dsimp only at hp
          rw [hL.out, hK] at hp
          have := Parse_err _ _ _ W (V.out.env.below hB) (V.out.et.below hB) hp
          unfold PeA cfV cfZ at this
          dsimp only at this
          rw [e0]
          have eK : ((1 + K : Nat) : Int) = (K : Int) + 1 := by omega
          rw [eK] at this
          exact this
        replace hX := Mr.hid hX
        replace hK := Mr.hid hK
        replace BB5 := Mr.hid BB5
        replace hszL := Mr.hid hszL
        clear TX hcd hm1 hl1 hL hbx5 hM' hm V hln hcf
        go_loopg [9, 10] L.length (fun gk s9 s10 wr => ∃ (i : Nat), s9 = .int .i64 ((nls (L.take i) : Nat) : Int) ∧ s10 = .int .i64 (i : Int) ∧ i + gk = L.length ∧ Below w.heap.size w wr)
        case atStart => exact ⟨0, rfl, rfl, by omega, BB5.out⟩
        case round =>
          obtain ⟨i, rfl, rfl, hi, hBr⟩ := hrel
          by_cases hlt : i < L.length
          · have hsx : (i : Nat) < X.size := by rw [hszL.out]; exact hlt
            have hlI : (i : Int) < (X.size : Int) := by omega
            have dl : decide ((i : Int) < (X.size : Int)) = true := by simpa using hlI
            have hw : IntKind.i64.wrap ((i : Int) + 1) = (i : Int) + 1 := i64x _ (by omega) (by omega)
            have hgi := hget.out i hsx hlt
            have hnl : nls (L.take (i + 1)) = nls (L.take i) + (if L[i] = 10 then 1 else 0) := by
              rw [List.take_succ_eq_append_getElem hlt, nls_app]
              congr 1
              by_cases h10 : L[i] = 10
              · rw [h10]; rfl
              · rw [if_neg h10]; simp [nls, h10]
            have hnb : nls (L.take i) ≤ L.length := Nat.le_trans List.count_le_length (by rw [List.length_take]; omega)
            have hi' := Mr.hid hi
            replace hBr := Mr.hid hBr
            by_cases h10 : L[i] = 10
            · have hx10 : X[i].toNat = 10 := by rw [hgi, h10]; rfl
              have kx : ((X[i].toNat : Int) == 10) = true := by rw [hx10]; rfl
              have hnl' : Hid (nls (L.take (i + 1)) = nls (L.take i) + 1) := by show _ = _; rw [hnl, if_pos h10]
              generalize nls (L.take i) = q at *
              have hw2 : IntKind.i64.wrap ((q : Int) + 1) = (q : Int) + 1 := i64x _ (by omega) (by omega)
              clear hnl hi hgi h10
              go_wp2
              go_roundg (gk - 1)
              case measure => have := hi'.out; omega
              case rel => exact ⟨i + 1, by rw [hnl'.out]; simp, by simp, by have := hi'.out; omega, hBr.out⟩
            · have hx10 : ¬ X[i].toNat = 10 := by rw [hgi]; exact fun e => h10 (UInt8.toNat_inj.1 e)
              have kx : ((X[i].toNat : Int) == 10) = false := beq_eq_false_iff_ne.2 (by omega)
              have hnl' : Hid (nls (L.take (i + 1)) = nls (L.take i)) := by show _ = _; rw [hnl, if_neg h10]; rfl
              generalize nls (L.take i) = q at *
              clear hnl hi hgi h10
              go_wp2
              go_roundg (gk - 1)
              case measure => have := hi'.out; omega
              case rel => exact ⟨i + 1, by rw [hnl'.out], by simp, by have := hi'.out; omega, hBr.out⟩
          · have hie : i = L.length := by omega
            have hix : (i : Int) = (X.size : Int) := by have := hszL.out; omega
            have dl : decide ((i : Int) < (X.size : Int)) = false := decide_eq_false (by omega)
            have dn0 : ¬ i < X.size := by omega
            have dn : decide (i < X.size) = false := decide_eq_false dn0
            have hq : nls (L.take i) = K := by rw [hie, List.take_length]; exact hK.out
            rw [hq]
            have hsz := hszL.out
            have w1 : IntKind.i64.wrap ((X.size : Int) + (bh.size : Int)) = (X.size : Int) + (bh.size : Int) := i64x _ (by omega) (by omega)
            have w2 : IntKind.i64.wrap ((X.size : Int) + (bh.size : Int) + 20) = (X.size : Int) + (bh.size : Int) + 20 := i64x _ (by omega) (by omega)
            have w3 : IntKind.i64.wrap ((K : Int) + 1) = (K : Int) + 1 := i64x _ (by omega) (by omega)
            replace hBr := Mr.hid hBr
            by_cases hbig : 1048576 < L.length + bh.size + 20
            · have d1 : (1048576 : Int) < (X.size : Int) + (bh.size : Int) + 20 := by omega
              have d2 : decide ((1048576 : Int) < (X.size : Int) + (bh.size : Int) + 20) = true := decide_eq_true d1
              have d3 : 1048576 < X.size + bh.size + 20 := by omega
              clear hie hix hq hsz PA1 PA2 PA3
              go_wp2
              go_ret
              exact ⟨rfl, hBr.out⟩
            · have d1 : ¬ (1048576 : Int) < (X.size : Int) + (bh.size : Int) + 20 := by omega
              have d2 : decide ((1048576 : Int) < (X.size : Int) + (bh.size : Int) + 20) = false := decide_eq_false d1
              have d3 : ¬ 1048576 < X.size + bh.size + 20 := by omega
              have Q1 := Mr.hid (PA1.out hbig)
              have Q2 := Mr.hid (PA2.out hbig)
              have Q3 := Mr.hid (PA3.out hbig)
              have P1 := Mr.hid (Q1.out _ hBr.out)
              have z0 : ¬ 9223372036854775807 < X.size + 7 := by omega
              have y0 : ¬ 9223372036854775807 < X.size + 7 + bh.size := by omega
              have z1 : ¬ 9223372036854775807 < X.size + 10 := by omega
              have y1 : ¬ 9223372036854775807 < X.size + 10 + bh.size := by omega
              have z2 : ¬ 9223372036854775807 < X.size + 6 := by omega
              have y2 : ¬ 9223372036854775807 < X.size + 6 + bh.size := by omega
              clear hie hix hq hsz PA1 PA2 PA3 Q1 hbig
              go_upto_region 17 with (go_at_call 9; refine P1.out.mono ?_; clear P1; rintro e w6 ⟨rfl, B6⟩)
              have BB6 : Below w.heap.size w (w6.alloc (.cells #[.int .i64 0, .int .i64 0, .int .i64 0, .int .i64 0, .int .i64 0, .int .i64 0, .int .i64 0] 23)) := (hBr.out.trans (B6.mono hBr.out.size)).alloc (Nat.le_trans hBr.out.size B6.size) _
              have P2 := Mr.hid (Q2.out _ BB6)
              replace BB6 := Mr.hid BB6
              clear B6 Q2 hBr
              go_upto_region 18 with (go_at_call 9; refine P2.out.mono ?_; clear P2; rintro e w7 ⟨rfl, B7⟩)
              have BB7 : Below w.heap.size w (w7.alloc (.cells #[.int .i64 0, .int .i64 0, .int .i64 0, .int .i64 0, .int .i64 0, .int .i64 0, .int .i64 0] 23)) := (BB6.out.trans (B7.mono BB6.out.size)).alloc (Nat.le_trans BB6.out.size B7.size) _
              have P3 := Mr.hid (Q3.out _ BB7)
              replace BB7 := Mr.hid BB7
              clear B7 Q3 BB6
              go_upto_region 19 with (go_at_call 9; refine P3.out.mono ?_; clear P3; rintro e w8 ⟨rfl, B8⟩)
              have BB8 : Hid (Below w.heap.size w (w8.alloc (.cells #[.int .i64 0, .int .i64 0, .int .i64 0, .int .i64 0, .int .i64 0, .int .i64 0, .int .i64 0] 23))) := (BB7.out.trans (B8.mono BB7.out.size)).alloc (Nat.le_trans BB7.out.size B8.size) _
              clear B8 BB7
              go_wp2
              go_ret
              exact ⟨by simp, BB8.out⟩
theorem law_lines (c0 c1 c2 c3 c4 c5 c6 : Int) (a : Option Addr) (n cap : Nat) (ms : List Mv) (bh : ByteArray) (w : World) (hw : (Lit.int .i64 c0).wf = true ∧ (Lit.int .i64 c1).wf = true ∧ (Lit.int .i64 c2).wf = true ∧ (Lit.int .i64 c3).wf = true ∧ (Lit.int .i64 c4).wf = true ∧ (Lit.int .i64 c5).wf = true ∧ (Lit.int .i64 c6).wf = true) (hM : MvAt w a n ms) (hcap : n ≤ cap) (hm : ∀ m ∈ ms, MvB m) (hbh : bh.size ≤ 281474976710656) (V : EnvX w) :
    Calls Tryz.prog 4 #[.agg #[.int .i64 c0, .int .i64 c1, .int .i64 c2, .int .i64 c3, .int .i64 c4, .int .i64 c5, .int .i64 c6], .slice a n cap, .string bh] w fun e w' => e = .returned (.bool true) ∧ Below w.heap.size w w' :=
  scriptLines_any c0 c1 c2 c3 c4 c5 c6 a n cap ms bh hbh w V hM hcap hm
end Go.Proofs.YtfhkgeoionkonaaGreatDoor.Sc
