/-
  THE DOCUMENT'S ReadName by its contract: the walk.
-/
import Derived.Test.YtpmpdkpnjfidhaaDoorRefRead
namespace Go.Proofs.YtpmpdkpnjfidhaaDoor.St
open Go.RowKit
open Go.Lib (decDigits)
open Tr Wp
set_option linter.unusedVariables false
theorem eqB (a b : ByteArray) : (a.toList == b.toList) = decide (a = b) := by
  by_cases h : a = b
  · subst h; simp
  · have : (a.toList == b.toList) = false := by
      cases e : (a.toList == b.toList)
      · rfl
      · exact absurd (eq_of e) h
    rw [this]; simp [h]
theorem rest_list (s nm : ByteArray) (h1 : nm.size + 2 ≤ s.size) (h2 : s.extract 0 nm.size = nm) (h3 : s[nm.size].toNat = 32) : s.data.toList = nm.data.toList ++ 32 :: (s.extract (nm.size + 1) s.size).data.toList := by
  have hz := sz_list s
  have e1 := at_list s nm.size (by omega)
  have e2 : s[nm.size] = 32 := UInt8.toNat_inj.1 (by rw [h3]; rfl)
  have e3 : nm.data.toList = s.data.toList.take nm.size := by
    have := congrArg (fun b : ByteArray => b.data.toList) h2
    simp only [ext_list, List.drop_zero] at this
    exact this.symm
  rw [e3, ext_list, hz, List.take_length]
  have := List.take_append_drop nm.size s.data.toList
  conv => lhs; rw [← this]
  congr 1
  rw [List.drop_eq_getElem_cons (by rw [← hz]; omega), e1, e2]
theorem not_pre (s nm : ByteArray) (u : List UInt8) (hu : u ≠ []) (h : s.data.toList = nm.data.toList ++ 32 :: u) : nm.size + 2 ≤ s.size ∧ s.extract 0 nm.size = nm ∧ ∀ h : nm.size < s.size, s[nm.size].toNat = 32 := by
  have hz := sz_list s
  have hn := sz_list nm
  have hul : 0 < u.length := List.length_pos_iff.2 hu
  have hl : s.size = nm.size + 1 + u.length := by rw [hz, h, hn]; simp; omega
  refine ⟨by omega, ba_ext ?_, fun hh => ?_⟩
  · rw [ext_list, List.drop_zero, h, hn]
    exact List.take_left
  · rw [← at_list s nm.size hh]
    simp only [h]
    rw [List.getElem_append_right (by rw [← hn]; exact Nat.le_refl _)]
    have h0 : nm.size - nm.data.toList.length = 0 := by omega
    simp only [h0]
    rfl
set_option maxHeartbeats 8000000 in
set_option maxRecDepth 100000 in
theorem rread_any (s : ByteArray) (w : World) (hsz : s.size ≤ 281474976710656) : Calls Tryd.prog 10 #[.string s] w fun e w' => RdR s e ∧ Below w.heap.size w w' := by
  obtain ⟨W1, hW1⟩ : ∃ W1, w.alloc (.cells #[.int .i64 0, .int .i64 0, .int .i64 0] 24) = W1 := ⟨_, rfl⟩
  have kb : W1.heap[w.heap.size]? = some (.cells #[.int .i64 0, .int .i64 0, .int .i64 0] 24 (0, 0)) := by rw [← hW1]; exact heap_alloc_new w _
  have c0 : W1.cell? ⟨w.heap.size, 0, none⟩ = some (.int .i64 0) := by simp [World.cell?, kb]
  have c1 : W1.cell? ⟨w.heap.size, 1, none⟩ = some (.int .i64 0) := by simp [World.cell?, kb]
  have c2 : W1.cell? ⟨w.heap.size, 2, none⟩ = some (.int .i64 0) := by simp [World.cell?, kb]
  have cf : ∀ j, W1.frozen? ⟨w.heap.size, j, none⟩ = false := fun j => by simp [World.frozen?, kb]
  have hB : Below w.heap.size w W1 := by rw [← hW1]; exact (Below.refl _ _).alloc (Nat.le_refl _) _
  have hBe : ∀ x y z : Value, Below w.heap.size w (((W1.setCell ⟨w.heap.size, 0, none⟩ x).setCell ⟨w.heap.size, 1, none⟩ y).setCell ⟨w.heap.size, 2, none⟩ z) := fun x y z => ((hB.setCell (p := ⟨w.heap.size, 0, none⟩) (Nat.le_refl _) x).setCell (p := ⟨w.heap.size, 1, none⟩) (Nat.le_refl _) y).setCell (p := ⟨w.heap.size, 2, none⟩) (Nat.le_refl _) z
  replace hB := hidS hB
  replace hBe := hidS hBe
  clear kb
  go_enter Tryd.func10, Tryd.ntmps10
  go_wp2
  clear hW1
  go_loopg [4] 13 (fun g s4 wy => ∃ r : Nat, s4 = .int .i64 (r : Int) ∧ 1 ≤ r ∧ r + g = 14 ∧ wy = W1 ∧ ∀ q i k : Int, named q i k = true → q < r → s ≠ nameB q i k)
  case atStart => exact ⟨1, rfl, by omega, by omega, rfl, fun q i k h hq => absurd (named_parts q i k h).1 (by omega)⟩
  case round =>
    obtain ⟨r, rfl, hr1, hrg, rfl, NO⟩ := hrel
    by_cases h13 : r ≤ 13
    · have l1 : decide ((r : Int) ≤ 13) = true := decide_eq_true (by omega)
      have l1' : decide (r ≤ 13) = true := decide_eq_true h13
      have R := fun (W : World) => regName_in (r : Int) W (by omega) (by omega)
      have nxt : (∀ i k : Int, named (r : Int) i k = true → s ≠ nameB (r : Int) i k) → ∀ q i k : Int, named q i k = true → q < ((r + 1 : Nat) : Int) → s ≠ nameB q i k := fun h q i k hn hq => by
        by_cases e : q = r
        · subst e; exact h i k hn
        · exact NO q i k hn (by omega)
      replace nxt := hidS nxt
      replace NO := hidS NO
      by_cases h6 : r ≤ 6
      · have l2 : decide ((r : Int) ≤ 6) = true := decide_eq_true (by omega)
        have l2' : decide (r ≤ 6) = true := decide_eq_true h6
        by_cases he : s = tName (r : Int)
        · have q1 : (s.toList == (tName (r : Int)).toList) = true := by rw [eqB]; simpa using he
          have hF : RdR s (.returned (.tuple #[.agg #[.int .i64 (r : Int), .int .i64 0, .int .i64 0], .bool true])) := .inl ⟨r, 0, 0, mk_low r (by omega) (by omega), by rw [name_low r 0 0 (mk_low r (by omega) (by omega)) (by omega)]; exact he, rfl⟩
          replace hF := hidS hF
          clear he
          generalize tName (r : Int) = nm at *
          go_wp2_with (first | (go_at_call 27; refine (R _).mono ?_; clear R; rintro e w2 ⟨rfl, hw⟩; obtain rfl := hw.symm))
          refine bodyPost_ret (v := .tuple #[.agg #[.int .i64 (r : Int), .int .i64 0, .int .i64 0], .bool true]) (by simp [results, Tryd.results10, go_sem, *]) rfl ?_
          exact ⟨hF.out, hBe.out _ _ _⟩
        · have q1 : (s.toList == (tName (r : Int)).toList) = false := by rw [eqB]; simpa using he
          have hn := nxt.out (fun i k h => by rw [name_low r i k h (by omega)]; exact he)
          replace hn := hidS hn
          clear he
          generalize tName (r : Int) = nm at *
          go_wp2_with (first | (go_at_call 27; refine (R _).mono ?_; clear R; rintro e w2 ⟨rfl, hw⟩; obtain rfl := hw.symm))
          go_roundg (gk - 1)
          case measure => omega
          case rel => exact ⟨r + 1, by simp, by omega, by omega, rfl, hn.out⟩
      · have l2 : decide ((r : Int) ≤ 6) = false := decide_eq_false (by omega)
        have l2' : decide (r ≤ 6) = false := decide_eq_false h6
        have hnm : (tName (r : Int)).size ≤ 6 := tName_size _ (by omega) (by omega)
        have PRE : ∀ i k : Int, named (r : Int) i k = true → s = nameB (r : Int) i k → (tName (r : Int)).size + 2 ≤ s.size ∧ s.extract 0 (tName (r : Int)).size = tName (r : Int) ∧ ∀ h : (tName (r : Int)).size < s.size, s[(tName (r : Int)).size].toNat = 32 := fun i k h e => by
          obtain ⟨u, hu, hl⟩ := name_long r i k h (by omega)
          rw [← e] at hl
          exact not_pre s _ u hu hl
        have RL := rest_list s (tName (r : Int))
        have ONE := fun u hs => one_reg s (r : Int) u (by omega) (by omega) hs
        by_cases hc1 : s.size < (tName (r : Int)).size + 2
        · have hn := nxt.out (fun i k h e => by have := (PRE i k h e).1; omega)
          have q1 : decide ((s.size : Int) < ((tName (r : Int)).size : Int) + 2) = true := decide_eq_true (by omega)
          replace hn := hidS hn
          clear PRE RL ONE hc1
          generalize tName (r : Int) = nm at *
          go_wp2_with (first | (go_at_call 27; refine (R _).mono ?_; clear R; rintro e w2 ⟨rfl, hw⟩; obtain rfl := hw.symm))
          go_roundg (gk - 1)
          case measure => omega
          case rel => exact ⟨r + 1, by simp, by omega, by omega, rfl, hn.out⟩
        · have q1 : decide ((s.size : Int) < ((tName (r : Int)).size : Int) + 2) = false := decide_eq_false (by omega)
          have i1 : ((tName (r : Int)).size : Int) ≤ (s.size : Int) := by omega
          have i2 : (tName (r : Int)).size ≤ s.size := by omega
          have i3 : ((tName (r : Int)).size : Int) < (s.size : Int) := by omega
          have i4 : (tName (r : Int)).size < s.size := by omega
          have i5 : ((tName (r : Int)).size : Int) + 1 ≤ (s.size : Int) := by omega
          by_cases hc2 : s.extract 0 (tName (r : Int)).size = tName (r : Int)
          · have q2 : ((s.extract 0 (tName (r : Int)).size).toList != (tName (r : Int)).toList) = false := by rw [hc2]; simp
            have hix : (tName (r : Int)).size < s.size := by omega
            by_cases hc3 : s[(tName (r : Int)).size].toNat = 32
            · have q3 : ((s[(tName (r : Int)).size].toNat : Int) != 32) = false := by rw [hc3]; rfl
              have hs := RL (by omega) hc2 hc3
              have ONE' := ONE _ hs
              have N := fun (u : ByteArray) (W : World) => num_any u 2147483646 W (by omega)
              have hrz : (s.extract ((tName (r : Int)).size + 1) s.size).size ≤ 281474976710656 := by
                have := sz_list (s.extract ((tName (r : Int)).size + 1) s.size)
                rw [this, ext_list]
                have h4 := sz_list s
                simp
                omega
              by_cases h9 : r = 9
              · have hr9 : (r : Int) = 9 := by omega
                have q4 : ((r : Int) != 9) = false := by rw [hr9]; rfl
                have q4' : ((r : Int) == 9) = true := by rw [hr9]; rfl
                have HZ : ∀ q i k : Int, named q i k = true → s = nameB q i k → (s.extract ((tName (r : Int)).size + 1) s.size).data.toList = decDigits i.toNat ++ 46 :: decDigits k.toNat ∧ (0 ≤ i ∧ i ≤ 2147483646) ∧ (0 ≤ k ∧ k ≤ 2147483646) := fun q i k h e => by
                  have hq := ONE' q i k h e
                  obtain ⟨_, _, hi, hk, _⟩ := named_parts _ i k h
                  have hq9 : q = 9 := by omega
                  subst hq9
                  have hl := name_haz i k h
                  rw [← e, hs, hr9] at hl
                  rw [hr9]
                  exact ⟨(List.cons.inj (List.append_cancel_left hl)).2, hi, hk⟩
                have FY : ∀ u v : Nat, u ≤ 2147483646 → v ≤ 2147483646 → (s.extract ((tName (r : Int)).size + 1) s.size).data.toList = decDigits u ++ 46 :: decDigits v → RdR s (.returned (.tuple #[.agg #[.int .i64 (r : Int), .int .i64 (u : Int), .int .i64 (v : Int)], .bool true])) := fun u v hu hv e => by
                  have hm := mk_haz u v hu hv
                  refine .inl ⟨r, u, v, by rw [hr9]; exact hm, ba_ext ?_, rfl⟩
                  rw [hs, e, hr9, name_haz u v hm]
                  simp
                replace HZ := hidS HZ
                replace FY := hidS FY
                replace hs := hidS hs
                replace hr9 := hidS hr9
                have N1 := N
                clear PRE RL ONE ONE' hc3 h9
                generalize tName (r : Int) = nm at *
                go_wp2_with (first | (go_at_call 27; refine (R _).mono ?_; clear R; rintro e w2 ⟨rfl, hw⟩; obtain rfl := hw.symm))
                generalize s.extract (nm.size + 1) s.size = rest at *
                go_loopg [9] rest.size (fun g s9 wy => ∃ j : Nat, s9 = .int .i64 (j : Int) ∧ j + g = rest.size ∧ wy = wr ∧ ∀ j' (h : j' < rest.size), j' < j → rest[j'].toNat ≠ 46)
                case atStart => exact ⟨0, rfl, by omega, rfl, fun j' _ hj => by omega⟩
                case round =>
                  obtain ⟨j, rfl, hjg, hwr, hno⟩ := hrel
                  obtain rfl := hwr.symm
                  by_cases hjl : j < rest.size
                  · have p1 : decide ((j : Int) < (rest.size : Int)) = true := decide_eq_true (by omega)
                    have p1' : decide (j < rest.size) = true := decide_eq_true hjl
                    by_cases h46 : rest[j].toNat = 46
                    · have p2 : ((rest[j].toNat : Int) == 46) = true := by rw [h46]; rfl
                      have hf : fstD rest j := ⟨by omega, hno, fun _ => h46⟩
                      have hp := ext_dot rest j hjl h46
                      have CUT : ∀ q i k : Int, named q i k = true → s = nameB q i k → rest.extract 0 j = dec (i.toNat : Int) ∧ rest.extract (j + 1) rest.size = dec (k.toNat : Int) ∧ i.toNat ≤ 2147483646 ∧ k.toNat ≤ 2147483646 := fun q i k h e => by
                        obtain ⟨e1, e2, e3⟩ := HZ.out q i k h e
                        obtain ⟨d1, d2⟩ := cut_dot rest j hf i.toNat _ e1
                        refine ⟨ba_ext ?_, ba_ext ?_, by omega, by omega⟩
                        · rw [ext_list, List.drop_zero, e1, d1, dec_list]; exact List.take_left
                        · rw [ext_list, sz_list rest, List.take_length, e1, d1, dec_list]; simp
                      have F1 : NotNum (rest.extract 0 j) 2147483646 → ∀ a b c : Int, RdR s (.returned (.tuple #[.agg #[.int .i64 a, .int .i64 b, .int .i64 c], .bool false])) := fun hn a b c => .inr ⟨fun q i k h e => hn _ (CUT q i k h e).2.2.1 (CUT q i k h e).1, a, b, c, rfl⟩
                      have F2 : NotNum (rest.extract (j + 1) rest.size) 2147483646 → ∀ a b c : Int, RdR s (.returned (.tuple #[.agg #[.int .i64 a, .int .i64 b, .int .i64 c], .bool false])) := fun hn a b c => .inr ⟨fun q i k h e => hn _ (CUT q i k h e).2.2.2 (CUT q i k h e).2.1, a, b, c, rfl⟩
                      have F3 : ∀ u v : Nat, u ≤ 2147483646 → v ≤ 2147483646 → rest.extract 0 j = dec (u : Int) → rest.extract (j + 1) rest.size = dec (v : Int) → RdR s (.returned (.tuple #[.agg #[.int .i64 (r : Int), .int .i64 (u : Int), .int .i64 (v : Int)], .bool true])) := fun u v hu hv e1 e2 => FY.out u v hu hv (by rw [hp, e1, e2, dec_list, dec_list])
                      have i6 : (j : Int) ≤ (rest.size : Int) := by omega
                      have i7 : j ≤ rest.size := by omega
                      have i8 : (j : Int) + 1 ≤ (rest.size : Int) := by omega
                      replace F1 := hidS F1
                      replace F2 := hidS F2
                      replace F3 := hidS F3
                      clear CUT hp hf hno h46 HZ FY
                      go_wp2_with (first | (go_at_call 30; refine (N1 _ _).mono ?_; clear N1; rintro e w3 ⟨hw, hor⟩; obtain rfl := hw.symm; rcases hor with ⟨u, hu, hu2, rfl⟩ | ⟨hn1, rfl⟩) | (go_at_call 30; refine (N _ _).mono ?_; clear N; rintro e w3 ⟨hw, hor⟩; obtain rfl := hw.symm; rcases hor with ⟨v, hv, hv2, rfl⟩ | ⟨hn2, rfl⟩))
                      · have hF := F3.out u v hu hv hu2 hv2
                        replace hF := hidS hF
                        refine bodyPost_ret (v := .tuple #[.agg #[.int .i64 (r : Int), .int .i64 (u : Int), .int .i64 (v : Int)], .bool true]) (by simp [results, Tryd.results10, go_sem, *]) rfl ?_
                        exact ⟨hF.out, hBe.out _ _ _⟩
                      · have hF := F2.out hn2 (r : Int) (u : Int) 0
                        replace hF := hidS hF
                        refine bodyPost_ret (v := .tuple #[.agg #[.int .i64 (r : Int), .int .i64 (u : Int), .int .i64 0], .bool false]) (by simp [results, Tryd.results10, go_sem, *]) rfl ?_
                        exact ⟨hF.out, hBe.out _ _ _⟩
                      · have hF := F1.out hn1 (r : Int) 0 (v : Int)
                        replace hF := hidS hF
                        refine bodyPost_ret (v := .tuple #[.agg #[.int .i64 (r : Int), .int .i64 0, .int .i64 (v : Int)], .bool false]) (by simp [results, Tryd.results10, go_sem, *]) rfl ?_
                        exact ⟨hF.out, hBe.out _ _ _⟩
                      · have hF := F1.out hn1 (r : Int) 0 0
                        replace hF := hidS hF
                        refine bodyPost_ret (v := .tuple #[.agg #[.int .i64 (r : Int), .int .i64 0, .int .i64 0], .bool false]) (by simp [results, Tryd.results10, go_sem, *]) rfl ?_
                        exact ⟨hF.out, hBe.out _ _ _⟩
                    · have p2 : ((rest[j].toNat : Int) == 46) = false := beq_eq_false_iff_ne.2 (by omega)
                      have hno' : ∀ j' (h : j' < rest.size), j' < j + 1 → rest[j'].toNat ≠ 46 := fun j' h hj => by
                        by_cases e : j' = j
                        · subst e; exact h46
                        · exact hno j' h (by omega)
                      replace hno' := hidS hno'
                      clear hno
                      go_wp2
                      go_roundg (gk - 1)
                      case measure => omega
                      case rel => exact ⟨j + 1, by simp, by omega, rfl, hno'.out⟩
                  · have p1 : decide ((j : Int) < (rest.size : Int)) = false := decide_eq_false (by omega)
                    have p1' : decide (j < rest.size) = false := decide_eq_false hjl
                    have hje : j = rest.size := by omega
                    have hf : fstD rest rest.size := ⟨Nat.le_refl _, fun j' h hj => hno j' h (by omega), fun h => absurd h (by omega)⟩
                    have hF : RdR s (.returned (.tuple #[.agg #[.int .i64 0, .int .i64 0, .int .i64 0], .bool false])) := .inr ⟨fun q i k h e => by
                      obtain ⟨e1, _⟩ := HZ.out q i k h e
                      have := (cut_dot rest _ hf i.toNat _ e1).2
                      omega, 0, 0, 0, rfl⟩
                    replace hF := hidS hF
                    clear hno hf hje HZ FY
                    go_wp2
                    refine bodyPost_ret (v := .tuple #[.agg #[.int .i64 0, .int .i64 0, .int .i64 0], .bool false]) (by simp [results, Tryd.results10, go_sem, *]) rfl ?_
                    exact ⟨hF.out, hBe.out _ _ _⟩
              · have q4 : ((r : Int) != 9) = true := bne_iff_ne.2 (by omega)
                have q4' : ((r : Int) == 9) = false := beq_eq_false_iff_ne.2 (by omega)
                have FY : ∀ v : Nat, v ≤ 2147483646 → s.extract ((tName (r : Int)).size + 1) s.size = dec (v : Int) → RdR s (.returned (.tuple #[.agg #[.int .i64 (r : Int), .int .i64 (v : Int), .int .i64 0], .bool true])) := fun v hv e => by
                  have hm := mk_mid (r : Int) v (by omega) (by omega) (by omega) hv
                  refine .inl ⟨r, v, 0, hm, ba_ext ?_, rfl⟩
                  rw [name_mid r v 0 hm (by omega) (by omega), hs, e, dec_list]
                  simp
                have FN : NotNum (s.extract ((tName (r : Int)).size + 1) s.size) 2147483646 → RdR s (.returned (.tuple #[.agg #[.int .i64 (r : Int), .int .i64 0, .int .i64 0], .bool false])) := fun hn => by
                  refine .inr ⟨fun q i k h e => ?_, r, 0, 0, rfl⟩
                  have hq := ONE' q i k h e
                  subst hq
                  obtain ⟨_, _, hi, _⟩ := named_parts _ i k h
                  have hl := name_mid (r : Int) i k h (by omega) (by omega)
                  rw [← e, hs] at hl
                  have := (List.cons.inj (List.append_cancel_left hl)).2
                  exact hn i.toNat (by omega) (ba_ext (by rw [this, dec_list]))
                replace FY := hidS FY
                replace FN := hidS FN
                replace hs := hidS hs
                clear PRE RL ONE ONE' hc3 h9
                generalize tName (r : Int) = nm at *
                go_wp2_with (first | (go_at_call 27; refine (R _).mono ?_; clear R; rintro e w2 ⟨rfl, hw⟩; obtain rfl := hw.symm) | (go_at_call 30; refine (N _ _).mono ?_; clear N; rintro e w3 ⟨hw, hor⟩; obtain rfl := hw.symm; rcases hor with ⟨v, hv, hv2, rfl⟩ | ⟨hn, rfl⟩))
                · have hF := FY.out v hv hv2
                  replace hF := hidS hF
                  refine bodyPost_ret (v := .tuple #[.agg #[.int .i64 (r : Int), .int .i64 (v : Int), .int .i64 0], .bool true]) (by simp [results, Tryd.results10, go_sem, *]) rfl ?_
                  exact ⟨hF.out, hBe.out _ _ _⟩
                · have hF := FN.out hn
                  replace hF := hidS hF
                  refine bodyPost_ret (v := .tuple #[.agg #[.int .i64 (r : Int), .int .i64 0, .int .i64 0], .bool false]) (by simp [results, Tryd.results10, go_sem, *]) rfl ?_
                  exact ⟨hF.out, hBe.out _ _ _⟩
            · have q3 : ((s[(tName (r : Int)).size].toNat : Int) != 32) = true := bne_iff_ne.2 (by omega)
              have hn := nxt.out (fun i k h e => hc3 ((PRE i k h e).2.2 hix))
              replace hn := hidS hn
              clear PRE RL ONE hc3
              generalize tName (r : Int) = nm at *
              go_wp2_with (first | (go_at_call 27; refine (R _).mono ?_; clear R; rintro e w2 ⟨rfl, hw⟩; obtain rfl := hw.symm))
              go_roundg (gk - 1)
              case measure => omega
              case rel => exact ⟨r + 1, by simp, by omega, by omega, rfl, hn.out⟩
          · have q2 : ((s.extract 0 (tName (r : Int)).size).toList != (tName (r : Int)).toList) = true := by rw [bne, eqB]; simpa using hc2
            have q2' : ¬ (s.extract 0 (tName (r : Int)).size).toList = (tName (r : Int)).toList := fun e => hc2 (eq_of (by rw [e]; simp))
            have hn := nxt.out (fun i k h e => hc2 (PRE i k h e).2.1)
            replace hn := hidS hn
            clear PRE RL ONE hc2
            generalize tName (r : Int) = nm at *
            go_wp2_with (first | (go_at_call 27; refine (R _).mono ?_; clear R; rintro e w2 ⟨rfl, hw⟩; obtain rfl := hw.symm))
            go_roundg (gk - 1)
            case measure => omega
            case rel => exact ⟨r + 1, by simp, by omega, by omega, rfl, hn.out⟩
    · have l1 : decide ((r : Int) ≤ 13) = false := decide_eq_false (by omega)
      have l1' : decide (r ≤ 13) = false := decide_eq_false h13
      have hF : RdR s (.returned (.tuple #[.agg #[.int .i64 0, .int .i64 0, .int .i64 0], .bool false])) := .inr ⟨fun q i k h => NO q i k h (by have := (named_parts q i k h).2.1; omega), 0, 0, 0, rfl⟩
      replace hF := hidS hF
      clear NO
      go_wp2
      refine bodyPost_ret (v := .tuple #[.agg #[.int .i64 0, .int .i64 0, .int .i64 0], .bool false]) (by simp [results, Tryd.results10, go_sem, *]) rfl ?_
      exact ⟨hF.out, hBe.out _ _ _⟩
end Go.Proofs.YtpmpdkpnjfidhaaDoor.St
