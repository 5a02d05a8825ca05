/-
  SCRIPT: ScriptRounds.
-/
import Derived.Test.YtfhkgeoionkonaaGreatDoorSeLn
import Derived.Test.YtfhkgeoionkonaaGreatDoorScAw
import Derived.Test.YtfhkgeoionkonaaGreatDoorRefShow
namespace Go.Proofs.YtfhkgeoionkonaaGreatDoor.Sc
open Go.RowKit Mr
open Go.Lib (itoa)
set_option linter.unusedVariables false
set_option linter.unusedSimpArgs false
set_option maxRecDepth 100000
set_option maxHeartbeats 8000000 in
theorem rounds_out (t th n : Int) (w : World) (E : Env w) (h : t < 1 ∨ 16 < t ∨ n < 1 ∨ 300 < n) :
    Calls Tryz.prog 7 #[.int .i64 t, .int .i64 th, .int .i64 n] w fun e w' => e = .returned (.bool true) ∧ Below w.heap.size w w' := by
  have AW := Mr.hid (awake_any w E)
  by_cases h1 : t < 1
  · have k1 : decide (t < 1) = true := decide_eq_true h1
    clear h E
    go_enter Tryz.func7, Tryz.ntmps7
    go_wp2_with (go_at_call 10; refine AW.out.mono ?_; clear AW; rintro e w3 ⟨rfl, B3⟩; replace B3 := Mr.hid B3)
    go_ret
    exact ⟨rfl, B3.out⟩
  · have k1 : decide (t < 1) = false := decide_eq_false h1
    by_cases h2 : 16 < t
    · have k2 : decide (16 < t) = true := decide_eq_true h2
      clear h E
      go_enter Tryz.func7, Tryz.ntmps7
      go_wp2_with (go_at_call 10; refine AW.out.mono ?_; clear AW; rintro e w3 ⟨rfl, B3⟩; replace B3 := Mr.hid B3)
      go_ret
      exact ⟨rfl, B3.out⟩
    · have k2 : decide (16 < t) = false := decide_eq_false h2
      by_cases h3 : n < 1
      · have k3 : decide (n < 1) = true := decide_eq_true h3
        clear h E
        go_enter Tryz.func7, Tryz.ntmps7
        go_wp2_with (go_at_call 10; refine AW.out.mono ?_; clear AW; rintro e w3 ⟨rfl, B3⟩; replace B3 := Mr.hid B3)
        go_ret
        exact ⟨rfl, B3.out⟩
      · have k3 : decide (n < 1) = false := decide_eq_false h3
        have h4 : 300 < n := by omega
        have k4 : decide (300 < n) = true := decide_eq_true h4
        clear h E
        go_enter Tryz.func7, Tryz.ntmps7
        go_wp2_with (go_at_call 10; refine AW.out.mono ?_; clear AW; rintro e w3 ⟨rfl, B3⟩; replace B3 := Mr.hid B3)
        go_ret
        exact ⟨rfl, B3.out⟩
theorem ito_cat (x : List UInt8) (n : Int) : (⟨x.toArray⟩ ++ ito n : ByteArray) = ⟨(x ++ itoa n).toArray⟩ := cat_list _ _
theorem rep_get {n i : Nat} {m : Mv} (h : i < n) : (List.replicate n m)[i]? = some m := by simp [h]
set_option maxHeartbeats 16000000 in
theorem rounds_in (T n : Nat) (th : Int) (w : World) (E : Env w) (hT : 1 ≤ T ∧ T ≤ 16) (hn : 1 ≤ n ∧ n ≤ 300) (hth : Bd th) :
    Calls Tryz.prog 7 #[.int .i64 (T : Int), .int .i64 th, .int .i64 (n : Int)] w fun e w' => e = .returned (.bool true) ∧ Below w.heap.size w w' := by
  obtain ⟨hT1, hT2⟩ := hT
  obtain ⟨hn1, hn2⟩ := hn
  have hcd : cfgC ⟨(T : Int), 2, 3, 1, 0, 4, 1⟩ = true := by
    unfold cfgC Wc.cfgB Wc.inB
    dsimp only
    simp only [Bool.and_eq_true, decide_eq_true_eq]
    omega
  have hcb : Wc.cfgB (T : Int) 2 3 1 0 4 1 = true := hcd
  have hbn : Bd (n : Int) := by unfold Bd; omega
  have hhl := head_len ⟨(T : Int), 2, 3, 1, 0, 4, 1⟩ hcd
  have hpT : prT (Wc.cfgB (T : Int) 2 3 1 0 4 1) [(T : Int), 2, 3, 1, 0, 4, 1] [] = ⟨(prints (cfL ⟨(T : Int), 2, 3, 1, 0, 4, 1⟩) []).toArray⟩ := by
    unfold prT
    rw [if_pos hcb, if_pos (by decide), if_pos (by unfold cfL at hhl; dsimp only at hhl; omega)]
    rfl
  have hpE : prE (Wc.cfgB (T : Int) 2 3 1 0 4 1) [(T : Int), 2, 3, 1, 0, 4, 1] [] = 0 := by
    unfold prE
    rw [if_pos hcb, if_pos (by decide), if_pos (by unfold cfL at hhl; dsimp only at hhl; omega)]
  have p1 := parseX_inr (par_ones ⟨(T : Int), 2, 3, 1, 0, 4, 1⟩ hcd th hth n hn2)
  have p2 := parseX_inr (par_steps ⟨(T : Int), 2, 3, 1, 0, 4, 1⟩ hcd th hth n hn1 hn2)
  have p3 := parseX_inr (par_rounds ⟨(T : Int), 2, 3, 1, 0, 4, 1⟩ hcd n hn1 hn2)
  dsimp only at p3
  have hTT : ((T : Int)).toNat = T := by omega
  rw [hTT] at p3
  have hlr : ((List.replicate n (rnds T)).flatten).length = n * T := by rw [rep_len, rnds_len]
  have hgr := fun i (hi : i < n * T) => rnds_get T n i hT1 hi
  have hnT : n * T ≤ 300 * 16 := Nat.mul_le_mul hn2 hT2
  have hnTI : (n : Int) * (T : Int) = ((n * T : Nat) : Int) := by simp
  have hszo : ∀ k, k ≤ n → (ones th k).length ≤ 300 * 24 := fun k hk => by
    rw [ones_len]
    have := itoa_len th hth
    exact Nat.mul_le_mul (by omega) (by omega)
  have SM := Mr.hid (fun W => small_any W)
  have AW := Mr.hid (fun W (hB : Below w.heap.size w W) => awake_any W (E.below hB))
  have DT : Hid (∀ W, Calls Tryz.prog 16 #[.int .i64 th] W fun e w' => e = .returned (.string (ito th)) ∧ Below W.heap.size W w') := fun W => St.decimal_any th W hth.1 hth.2
  have DN : Hid (∀ W, Calls Tryz.prog 16 #[.int .i64 (n : Int)] W fun e w' => e = .returned (.string (ito (n : Int))) ∧ Below W.heap.size W w') := fun W => St.decimal_any (n : Int) W hbn.1 hbn.2
  have PR : Hid (∀ W, Below w.heap.size w W → Calls Tryz.prog 11 #[.agg #[.int .i64 (T : Int), .int .i64 2, .int .i64 3, .int .i64 1, .int .i64 0, .int .i64 4, .int .i64 1], .slice none 0 0] W fun e w' => e = .returned (.tuple #[.string ⟨(prints (cfL ⟨(T : Int), 2, 3, 1, 0, 4, 1⟩) []).toArray⟩, .int .i64 0]) ∧ Below W.heap.size W w') := fun W hB => by
    have := Print_any (T : Int) 2 3 1 0 4 1 none 0 0 [] W (E.below hB) ⟨rfl, .inl rfl⟩ (by simp) (by intro x hx; simp only [List.mem_cons, List.not_mem_nil, or_false] at hx; rcases hx with rfl | rfl | rfl | rfl | rfl | rfl | rfl <;> (unfold Bd; omega)) (Nat.le_refl _)
    rw [hpT, hpE] at this
    exact this
  have s1 : (⟨(prints (cfL ⟨(T : Int), 2, 3, 1, 0, 4, 1⟩) []).toArray⟩ : ByteArray).size ≤ 2000 := by rw [sz_list]; exact hhl
  have sI : (ito th).size ≤ 21 := by unfold ito; rw [sz_list]; exact itoa_len th hth
  have sN : (ito (n : Int)).size ≤ 21 := by unfold ito; rw [sz_list]; exact itoa_len _ hbn
  have c1 : (⟨(prints (cfL ⟨(T : Int), 2, 3, 1, 0, 4, 1⟩) []).toArray⟩ ++ ⟨(ones th n).toArray⟩ : ByteArray) = ⟨(prints (cfL ⟨(T : Int), 2, 3, 1, 0, 4, 1⟩) [] ++ ones th n).toArray⟩ := cat_list _ _
  have c2 : (⟨(prints (cfL ⟨(T : Int), 2, 3, 1, 0, 4, 1⟩) []).toArray⟩ ++ ito th ++ ⟨#[32, 46, 32]⟩ ++ ito (n : Int) : ByteArray) = ⟨(prints (cfL ⟨(T : Int), 2, 3, 1, 0, 4, 1⟩) [] ++ (itoa th ++ [32, 46, 32] ++ itoa (n : Int))).toArray⟩ := by
    rw [ito_cat, show (⟨#[32, 46, 32]⟩ : ByteArray) = ⟨([32, 46, 32] : List UInt8).toArray⟩ from rfl, cat_list, ito_cat]
    simp
  have c3 : (⟨(prints (cfL ⟨(T : Int), 2, 3, 1, 0, 4, 1⟩) []).toArray⟩ ++ ⟨#[42, 32]⟩ ++ ito (n : Int) : ByteArray) = ⟨(prints (cfL ⟨(T : Int), 2, 3, 1, 0, 4, 1⟩) [] ++ ([42, 32] ++ itoa (n : Int))).toArray⟩ := by
    have e1 : (⟨(prints (cfL ⟨(T : Int), 2, 3, 1, 0, 4, 1⟩) []).toArray⟩ ++ ⟨#[42, 32]⟩ : ByteArray) = ⟨(prints (cfL ⟨(T : Int), 2, 3, 1, 0, 4, 1⟩) [] ++ [42, 32]).toArray⟩ := cat_list _ _
    rw [e1, ito_cat]
    simp
  have PA1 := Mr.hid (fun W (hB : Below w.heap.size w W) => Parse_ok _ _ W (E.below hB) p1)
  have PA2 := Mr.hid (fun W (hB : Below w.heap.size w W) => Parse_ok _ _ W (E.below hB) p2)
  have PA3 := Mr.hid (fun W (hB : Below w.heap.size w W) => Parse_ok _ _ W (E.below hB) p3)
  rw [← c1] at PA1
  rw [← c2] at PA2
  rw [← c3] at PA3
  unfold PaA cfV at PA1 PA2 PA3
  dsimp only at PA1 PA2 PA3
  have hlon : (List.replicate n (stp th)).length = n := by simp
  rw [hlon] at PA1 PA2
  rw [hlr] at PA3
  have hone : ∀ k, (⟨(ones th k).toArray⟩ ++ (ito th ++ ⟨#[32, 46, 10]⟩) : ByteArray) = ⟨(ones th (k + 1)).toArray⟩ := fun k => by
    rw [show (⟨#[32, 46, 10]⟩ : ByteArray) = ⟨([32, 46, 10] : List UInt8).toArray⟩ from rfl, show ito th = ⟨(itoa th).toArray⟩ from rfl, cat_list, cat_list]
    rfl
  have SMV := Mr.hid (fun W a a' c c' (h1 : MvAt W a n (List.replicate n (stp th))) (h2 : MvAt W a' n (List.replicate n (stp th))) => sameMoves_eq (List.replicate n (stp th)) a a' n c c' W h1 h2 (by omega))
  generalize hR : (List.replicate n (rnds T)).flatten = Rr at *
  generalize (⟨(prints (cfL ⟨(T : Int), 2, 3, 1, 0, 4, 1⟩) []).toArray⟩ : ByteArray) = HD at *
  generalize ito th = IT at *
  generalize ito (n : Int) = IN at *
  obtain ⟨P, hP⟩ : ∃ P, n * T = P := ⟨_, rfl⟩
  rw [hP] at PA3 hgr hnT hnTI hlr
  have k1 : decide ((T : Int) < 1) = false := decide_eq_false (by omega)
  have k2 : decide ((16 : Int) < (T : Int)) = false := decide_eq_false (by omega)
  have k3 : decide ((n : Int) < 1) = false := decide_eq_false (by omega)
  have k4 : decide ((300 : Int) < (n : Int)) = false := decide_eq_false (by omega)
  have k5 : ¬ (T : Int) < 1 := by omega
  have k6 : ¬ (16 : Int) < (T : Int) := by omega
  have k7 : ¬ (n : Int) < 1 := by omega
  have k8 : ¬ (300 : Int) < (n : Int) := by omega
  replace hgr := Mr.hid hgr
  replace hszo := Mr.hid hszo
  replace hone := Mr.hid hone
  replace hnTI := Mr.hid hnTI
  replace hnT := Mr.hid hnT
  replace hlr := Mr.hid hlr
  replace hP := Mr.hid hP
  replace hlon := Mr.hid hlon
  clear p1 p2 p3 c1 c2 c3 hpT hpE hcd hcb hbn hhl hTT E hR
  go_enter Tryz.func7, Tryz.ntmps7
  go_upto_region 5 with (go_at_call 14; refine (SM.out _).mono ?_; clear SM; rintro e w1 ⟨rfl, B1⟩)
  have hbx1 : (w1.alloc (.cells #[.int .i64 (T : Int), .int .i64 2, .int .i64 3, .int .i64 1, .int .i64 0, .int .i64 4, .int .i64 1] 23)).heap[w1.heap.size]? = some (.cells #[.int .i64 (T : Int), .int .i64 2, .int .i64 3, .int .i64 1, .int .i64 0, .int .i64 4, .int .i64 1] 23 (0, 0)) := new_at _ _ _ rfl
  have B2 : Below w.heap.size w (w1.alloc (.cells #[.int .i64 (T : Int), .int .i64 2, .int .i64 3, .int .i64 1, .int .i64 0, .int .i64 4, .int .i64 1] 23)) := B1.alloc B1.size _
  have P2 := Mr.hid (PR.out _ B2)
  replace B2 := Mr.hid B2
  clear PR B1 hbx1
  go_upto_region 6 with (go_at_call 11; refine P2.out.mono ?_; clear P2; rintro e w3 ⟨rfl, B3⟩)
  have BB3 : Below w.heap.size w w3 := B2.out.trans (B3.mono B2.out.size)
  have A3 := Mr.hid (AW.out w3 BB3)
  replace BB3 := Mr.hid BB3
  clear B2 B3 AW
  go_upto_region 10 with (go_at_call 10; refine A3.out.mono ?_; clear A3; rintro e w4 ⟨rfl, B4⟩)
  have BB4 : Hid (Below w.heap.size w w4) := BB3.out.trans (B4.mono BB3.out.size)
  clear B4 BB3
  go_loopg [10, 11] n (fun gk s10 s11 wr => ∃ (k : Nat), s10 = .string ⟨(ones th k).toArray⟩ ∧ s11 = .int .i64 (k : Int) ∧ k + gk = n ∧ Below w.heap.size w wr)
  case atStart => exact ⟨0, rfl, rfl, by omega, BB4.out⟩
  case round =>
    obtain ⟨k, rfl, rfl, hk, hBr⟩ := hrel
    by_cases hlt : k < n
    · have hlI : (k : Int) < (n : Int) := by omega
      have dl : decide ((k : Int) < (n : Int)) = true := by simpa using hlI
      have hw : IntKind.i64.wrap ((k : Int) + 1) = (k : Int) + 1 := i64x _ (by omega) (by omega)
      have so := hszo.out k (by omega)
      have so1 : (⟨(ones th k).toArray⟩ : ByteArray).size ≤ 300 * 24 := by rw [sz_list]; exact so
      have ho := Mr.hid (hone.out k)
      obtain ⟨OK, hOK⟩ : ∃ X : ByteArray, X = ⟨(ones th k).toArray⟩ := ⟨_, rfl⟩
      rw [← hOK] at so1 ho ⊢
      have z1 : ¬ 9223372036854775807 < IT.size + 3 := by omega
      have z2 : ¬ 9223372036854775807 < OK.size + (IT.size + 3) := by omega
      have z3 : ¬ 9223372036854775807 < OK.size + (IT ++ ⟨#[32, 46, 10]⟩).size := by rw [ByteArray.size_append]; exact z2
      have hk' := Mr.hid hk
      replace hBr := Mr.hid hBr
      clear hk so hOK
      go_wp2_with (go_at_call 16; refine (DT.out _).mono ?_; rintro e w9 ⟨rfl, B9⟩; have hB9 : Hid (Below w.heap.size w w9) := hBr.out.trans (B9.mono hBr.out.size); clear B9)
      go_roundg (gk - 1)
      case measure => have := hk'.out; omega
      case rel => exact ⟨k + 1, by rw [ho.out], by simp, by have := hk'.out; omega, hB9.out⟩
    · obtain rfl : k = n := by omega
      have dl : decide ((k : Int) < (k : Int)) = false := by simp
      have so1 : (⟨(ones th k).toArray⟩ : ByteArray).size ≤ 300 * 24 := by rw [sz_list]; exact hszo.out k (Nat.le_refl _)
      have P4 := Mr.hid (PA1.out wr hBr)
      generalize (⟨(ones th k).toArray⟩ : ByteArray) = OK at *
      have z1 : ¬ 9223372036854775807 < HD.size + OK.size := by omega
      replace hBr := Mr.hid hBr
      clear hk hlt PA1 hone hszo
      go_upto_region 14 with (go_at_call 9; refine P4.out.mono ?_; clear P4; rintro e w5 ⟨va, rfl, hva, B5⟩)
      obtain ⟨aa, ca, rfl, hca⟩ := hva.form
      have hva5 := hva.alloc (.cells #[.int .i64 (T : Int), .int .i64 2, .int .i64 3, .int .i64 1, .int .i64 0, .int .i64 4, .int .i64 1] 23)
      have BB5 : Below w.heap.size w (w5.alloc (.cells #[.int .i64 (T : Int), .int .i64 2, .int .i64 3, .int .i64 1, .int .i64 0, .int .i64 4, .int .i64 1] 23)) := (hBr.out.trans (B5.mono hBr.out.size)).alloc (Nat.le_trans hBr.out.size B5.size) _
      replace hva5 := Mr.hid hva5
      replace BB5 := Mr.hid BB5
      clear hva B5 hBr
      generalize w5.heap.size = b12 at *
      generalize w5.alloc (.cells #[.int .i64 (T : Int), .int .i64 2, .int .i64 3, .int .i64 1, .int .i64 0, .int .i64 4, .int .i64 1] 23) = w6 at *
      have z2 : ¬ 9223372036854775807 < HD.size + IT.size := by omega
      have z3 : ¬ 9223372036854775807 < HD.size + IT.size + 3 := by omega
      have z4 : ¬ 9223372036854775807 < HD.size + IT.size + 3 + IN.size := by omega
      have z5 : ¬ 9223372036854775807 < HD.size + 2 := by omega
      have z6 : ¬ 9223372036854775807 < HD.size + 2 + IN.size := by omega
      go_upto_region 15 with (first | (go_at_call 16; refine (DT.out _).mono ?_; clear DT; rintro e w7 ⟨rfl, B7⟩; replace B7 := Mr.hid B7) | (go_at_call 16; refine (DN.out _).mono ?_; rintro e w8 ⟨rfl, B8⟩; have BB8 : Below w.heap.size w w8 := (BB5.out.trans (B7.out.mono BB5.out.size)).trans (B8.mono (Nat.le_trans BB5.out.size B7.out.size)); have hva8 := Mr.hid ((hva5.out.below B7.out).below B8); have P8 := Mr.hid (PA2.out w8 BB8); replace BB8 := Mr.hid BB8; clear B7 B8 BB5 hva5 PA2) | (go_at_call 9; refine P8.out.mono ?_; clear P8; rintro e w9 ⟨vb, rfl, hvb, B9⟩))
      obtain ⟨ab, cb, rfl, hcb⟩ := hvb.form
      have hvb9 := hvb.alloc (.cells #[.int .i64 (T : Int), .int .i64 2, .int .i64 3, .int .i64 1, .int .i64 0, .int .i64 4, .int .i64 1] 23)
      have hva9 := (hva8.out.below B9).alloc (.cells #[.int .i64 (T : Int), .int .i64 2, .int .i64 3, .int .i64 1, .int .i64 0, .int .i64 4, .int .i64 1] 23)
      have BB9 : Below w.heap.size w (w9.alloc (.cells #[.int .i64 (T : Int), .int .i64 2, .int .i64 3, .int .i64 1, .int .i64 0, .int .i64 4, .int .i64 1] 23)) := (BB8.out.trans (B9.mono BB8.out.size)).alloc (Nat.le_trans BB8.out.size B9.size) _
      replace hvb9 := Mr.hid hvb9
      replace hva9 := Mr.hid hva9
      replace BB9 := Mr.hid BB9
      clear hvb B9 BB8 hva8
      generalize w9.heap.size = b15 at *
      generalize w9.alloc (.cells #[.int .i64 (T : Int), .int .i64 2, .int .i64 3, .int .i64 1, .int .i64 0, .int .i64 4, .int .i64 1] 23) = w10 at *
      go_upto_region 16 with (first | (go_at_call 16; refine (DN.out _).mono ?_; clear DN; rintro e w11 ⟨rfl, B11⟩; have BB11 : Below w.heap.size w w11 := BB9.out.trans (B11.mono BB9.out.size); have hva11 := Mr.hid (hva9.out.below B11); have hvb11 := Mr.hid (hvb9.out.below B11); have P11 := Mr.hid (PA3.out w11 BB11); replace BB11 := Mr.hid BB11; clear B11 BB9 hva9 hvb9 PA3) | (go_at_call 9; refine P11.out.mono ?_; clear P11; rintro e w12 ⟨vr, rfl, hvr, B12⟩))
      obtain ⟨ar, cr, rfl, hcr⟩ := hvr.form
      have hvr12 := hvr.alloc (.cells #[.int .i64 (T : Int), .int .i64 2, .int .i64 3, .int .i64 1, .int .i64 0, .int .i64 4, .int .i64 1] 23)
      have hva12 := (hva11.out.below B12).alloc (.cells #[.int .i64 (T : Int), .int .i64 2, .int .i64 3, .int .i64 1, .int .i64 0, .int .i64 4, .int .i64 1] 23)
      have hvb12 := (hvb11.out.below B12).alloc (.cells #[.int .i64 (T : Int), .int .i64 2, .int .i64 3, .int .i64 1, .int .i64 0, .int .i64 4, .int .i64 1] 23)
      have BB12 : Below w.heap.size w (w12.alloc (.cells #[.int .i64 (T : Int), .int .i64 2, .int .i64 3, .int .i64 1, .int .i64 0, .int .i64 4, .int .i64 1] 23)) := (BB11.out.trans (B12.mono BB11.out.size)).alloc (Nat.le_trans BB11.out.size B12.size) _
      generalize w12.heap.size = b19 at *
      generalize w12.alloc (.cells #[.int .i64 (T : Int), .int .i64 2, .int .i64 3, .int .i64 1, .int .i64 0, .int .i64 4, .int .i64 1] 23) = w13 at *
      have Ma : Hid (MvAt w13 aa k (List.replicate k (stp th))) := MvAt.of hva12
      have Mb := MvAt.of hvb12
      have Mr' : Hid (MvAt w13 ar P Rr) := MvAt.of hvr12
      have S13 := Mr.hid (SMV.out w13 aa ab ca cb Ma.out Mb)
      have kw : IntKind.i64.wrap ((k : Int) * (T : Int)) = (P : Int) := by rw [hnTI.out]; exact i64x _ (by have := hnT.out; omega) (by have := hnT.out; omega)
      replace BB12 := Mr.hid BB12
      clear hvr hva11 hvb11 BB11 B12 hvr12 hva12 hvb12 Mb SMV z1 z2 z3 z4 z5 z6
      go_upto_region 19 with (go_at_call 12; refine S13.out.mono ?_; clear S13; rintro e w14 ⟨rfl, B14⟩)
      have BB14 : Hid (Below w.heap.size w w14) := BB12.out.trans (B14.mono BB12.out.size)
      have Ma14 : Hid (MvAt w14 aa k (List.replicate k (stp th))) := Ma.out.below B14
      have Mr14 : Hid (MvAt w14 ar P Rr) := Mr'.out.below B14
      clear Ma Mr' BB12 B14
      go_loopg [23] P (fun gk s23 wq => ∃ (i : Nat), s23 = .int .i64 (i : Int) ∧ i + gk = P ∧ Below w14.heap.size w14 wq)
      case atStart => exact ⟨0, rfl, by omega, Below.refl _ _⟩
      case round =>
        obtain ⟨i, rfl, hi, hBq⟩ := hrel
        by_cases hlq : i < P
        · have hg := hgr.out i hlq
          have hli : i < Rr.length := by rw [hlr.out]; exact hlq
          have hne : Rr ≠ [] := by intro e; rw [e] at hli; simp at hli
          obtain ⟨g, o, rfl, hgl, hc⟩ := (Mr14.out.below hBq).2.resolve_left hne
          obtain ⟨d0, d1, d2, d3⟩ := hc i hli
          rw [hg] at d0 d1 d2 d3
          simp only [Option.getD_some, stp] at d0 d1 d2 d3
          have hem : (i : Int) % (T : Int) = ((i % T : Nat) : Int) := by simp
          rw [← hem] at d0
          have hlI : (i : Int) < (P : Int) := by omega
          have dl : decide ((i : Int) < (P : Int)) = true := by simpa using hlI
          have hw : IntKind.i64.wrap ((i : Int) + 1) = (i : Int) + 1 := i64x _ (by have := hnT.out; omega) (by have := hnT.out; omega)
          have hT0 : ((T : Int) == 0) = false := beq_eq_false_iff_ne.2 (by omega)
          have hT3 : ¬ (T : Int) = 0 := by omega
          have hi' := Mr.hid hi
          replace hBq := Mr.hid hBq
          clear hc hg hli hi hne hem
          go_upto_region 21 with fail
          go_quiet (fail)
          replace hBq := Mr.hid (hBq.out.trans ⟨rfl, rfl, rfl, Nat.le_refl _, fun _ _ => rfl⟩ : Below w14.heap.size w14 (wr.drewN nq))
          clear d0 d1 d2 d3 hgl
          generalize wr.drewN nq = w16 at *
          go_wp2
          go_roundg (gk - 1)
          case measure => have := hi'.out; omega
          case rel => exact ⟨i + 1, by simp, by have := hi'.out; omega, hBq.out⟩
        · obtain rfl : i = P := by omega
          have dl : decide ((i : Int) < (i : Int)) = false := by simp
          have hne : List.replicate k (stp th) ≠ [] := by intro e; have := congrArg List.length e; simp at this; omega
          obtain ⟨g, o, rfl, hgl, hc⟩ := (Ma14.out.below hBq).2.resolve_left hne
          obtain ⟨d0, d1, d2, d3⟩ := hc 0 (by simp; omega)
          rw [rep_get (by omega)] at d0 d1 d2 d3
          simp only [Option.getD_some, stp, Nat.zero_mul, Nat.add_zero] at d0 d1 d2 d3
          have hk0 : (0 : Int) < (k : Int) := by omega
          replace hBq := Mr.hid hBq
          clear hc hi hlq hne
          go_wp2
          go_ret
          exact ⟨by simp, BB14.out.trans (hBq.out.mono BB14.out.size)⟩
theorem law_rounds (t th n : Int) (w : World) (h1 : (Lit.int .i64 t).wf = true) (h2 : (Lit.int .i64 th).wf = true) (h3 : (Lit.int .i64 n).wf = true) (E : Env w) :
    Calls Tryz.prog 7 #[.int .i64 t, .int .i64 th, .int .i64 n] w fun e w' => e = .returned (.bool true) ∧ Below w.heap.size w w' := by
  by_cases h : t < 1 ∨ 16 < t ∨ n < 1 ∨ 300 < n
  · exact rounds_out t th n w E h
  · obtain ⟨T, rfl⟩ : ∃ T : Nat, t = T := ⟨t.toNat, by omega⟩
    obtain ⟨N, rfl⟩ : ∃ N : Nat, n = N := ⟨n.toNat, by omega⟩
    refine rounds_in T N th w E ⟨by omega, by omega⟩ ⟨by omega, by omega⟩ (bounds_i64 h2)
end Go.Proofs.YtfhkgeoionkonaaGreatDoor.Sc
