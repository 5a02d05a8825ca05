import Derived.Test.YtfgnaffomglmdaaGreatJ22
import Derived.Test.YtfgnaffomglmdaaGreatJ19
import Derived.Test.YtfgnaffomglmdaaGreatJ06
import Derived.Test.YtfgnaffomglmdaaGreatJ23
/-
  Package model: slices.BinarySearch, slices.BinarySearchFunc, find.
-/
namespace Go.Proofs.YtfgnaffomglmdaaGreat.Md
open Go.RowKit Mr
set_option linter.unusedVariables false
set_option linter.unusedSimpArgs false
theorem ris_lt {l : List Int} (h : Ris l) (a d : Nat) (hb : a + d + 1 < l.length) : l[a]?.getD 0 < l[a + d + 1]?.getD 0 := by
  induction d with
  | zero => exact h a hb
  | succ d ih => exact Int.lt_trans (ih (by omega)) (h (a + d + 1) (by omega))
theorem ris_le {l : List Int} (h : Ris l) (a b : Nat) (hab : a ≤ b) (hb : b < l.length) : l[a]?.getD 0 ≤ l[b]?.getD 0 := by
  by_cases e : a = b
  · subst e; exact Int.le_refl _
  · have := ris_lt h a (b - a - 1) (by omega)
    rw [show a + (b - a - 1) + 1 = b from by omega] at this
    omega
theorem bs_up {l : List Int} (h : Ris l) {x : Int} {m : Nat} (hm : m < l.length) (hx : l[m]?.getD 0 < x) : ∀ t, t < m + 1 → l[t]?.getD 0 < x := fun t ht => by
  have := ris_le h t m (by omega) hm
  omega
theorem bs_down {l : List Int} (h : Ris l) {x : Int} {m : Nat} (hx : ¬ l[m]?.getD 0 < x) : ∀ t, m ≤ t → t < l.length → x ≤ l[t]?.getD 0 := fun t ht hl => by
  have := ris_le h m t ht hl
  omega
theorem bs_end {l : List Int} {x : Int} {i : Nat} (hi : i ≤ l.length) (h1 : ∀ t, t < i → l[t]?.getD 0 < x) (h2 : ∀ t, i ≤ t → t < l.length → x ≤ l[t]?.getD 0) : plc l x = i := by
  refine plc_eq h1 ?_
  by_cases e : i < l.length
  · exact .inr ⟨e, by have := h2 i (Nat.le_refl _) e; omega⟩
  · exact .inl (by omega)
theorem bs_in {l : List Int} {x : Int} {i : Nat} (h : plc l x = i) : (i < l.length → inB l x = (l[i]?.getD 0 == x)) ∧ (¬ i < l.length → inB l x = false) := by
  unfold inB
  rw [h]
  exact ⟨fun hl => in_eq hl, fun hl => in_no (by omega)⟩
set_option maxHeartbeats 1000000 in
theorem less_any (x y : Int) (w : World) : Calls Tryz.prog 78 #[.int .i64 x, .int .i64 y] w fun e w' => e = .returned (.bool (decide (x < y))) ∧ w' = w := by
  go_enter Tryz.func78, Tryz.ntmps78
  go_wp2
  go_ret
  exact ⟨by simp, rfl⟩
set_option maxHeartbeats 1000000 in
theorem nan_any (x : Int) (w : World) : Calls Tryz.prog 120 #[.int .i64 x] w fun e w' => e = .returned (.bool false) ∧ w' = w := by
  go_enter Tryz.func120, Tryz.ntmps120
  go_wp2
  go_ret
  exact ⟨by simp, rfl⟩
set_option maxRecDepth 1000000 in
set_option maxHeartbeats 4000000 in
theorem bsI_any {w : World} {S : Nat → Prop} {u : Value} {l : List Int} (hu : Sl w S 1 u l.length (ints l)) (hsm : l.length * 8 ≤ 281474976710656) (hR : Ris l) (x : Int) :
    Calls Tryz.prog 116 #[u, .int .i64 x] w fun e w' => e = .returned (.tuple #[.int .i64 (plc l x : Nat), .bool (inB l x)]) ∧ Below w.heap.size w w' := by
  obtain ⟨au, cu, rfl, hcu⟩ := hu.form
  obtain ⟨n, hn⟩ : ∃ n, n = l.length := ⟨_, rfl⟩
  rw [← hn] at hu hsm hcu ⊢
  obtain ⟨pp, hpp⟩ : ∃ p, p = plc l x := ⟨_, rfl⟩
  obtain ⟨bb, hbb⟩ : ∃ b, b = inB l x := ⟨_, rfl⟩
  rw [← hpp, ← hbb]
  replace hn := Mr.hid hn
  replace hu := Mr.hid hu
  replace hR := Mr.hid hR
  replace hpp := Mr.hid hpp
  replace hbb := Mr.hid hbb
  go_enter Tryz.func116, Tryz.ntmps116
  go_wp2
  go_loopg [7, 8] n (fun g s7 s8 wr => ∃ lo hi : Nat, s7 = .int .i64 lo ∧ s8 = .int .i64 hi ∧ lo ≤ hi ∧ hi ≤ n ∧ hi - lo ≤ g ∧ Below w.heap.size w wr ∧ (∀ t, t < lo → l[t]?.getD 0 < x) ∧ (∀ t, hi ≤ t → t < n → x ≤ l[t]?.getD 0))
  case atStart => exact ⟨0, n, rfl, rfl, Nat.zero_le _, Nat.le_refl _, by omega, Below.refl _ _, fun t ht => absurd ht (Nat.not_lt_zero _), fun t h1 h2 => by omega⟩
  case round =>
    obtain ⟨lo, hi, rfl, rfl, hlh, hin, hg, B, h1, h2⟩ := hrel
    replace h1 := Mr.hid h1
    replace h2 := Mr.hid h2
    by_cases hlt : lo < hi
    · obtain ⟨gu, ou, cu', hgu, _, _, hul, ru⟩ := (hu.out.below B).there (by omega)
      cases hgu
      have cm := ru ((lo + hi) / 2) _ (ints_get l ((lo + hi) / 2) (by have := hn.out; omega))
      by_cases hyx : l[(lo + hi) / 2]?.getD 0 < x
      · have I := Mr.hid (bs_up hR.out (by have := hn.out; omega) hyx)
        generalize l[(lo + hi) / 2]?.getD 0 = y at *
        replace B := Mr.hid B
        clear ru
        go_wp2_with (first | (go_at_call 78; refine (less_any _ _ _).mono ?_; rintro e w' ⟨rfl, rfl⟩) | (go_at_call 120; refine (nan_any _ _).mono ?_; rintro e w' ⟨rfl, rfl⟩))
        go_roundg (hi - ((lo + hi) / 2 + 1))
        case measure => omega
        case rel => exact ⟨(lo + hi) / 2 + 1, hi, by rw [show ((lo : Int) + (hi : Int)) / 2 + 1 = (((lo + hi) / 2 + 1 : Nat) : Int) by omega], rfl, by omega, hin, Nat.le_refl _, B.out, I.out, h2.out⟩
      · have I := Mr.hid (bs_down hR.out hyx)
        generalize l[(lo + hi) / 2]?.getD 0 = y at *
        replace B := Mr.hid B
        clear ru
        go_wp2_with (first | (go_at_call 78; refine (less_any _ _ _).mono ?_; rintro e w' ⟨rfl, rfl⟩) | (go_at_call 120; refine (nan_any _ _).mono ?_; rintro e w' ⟨rfl, rfl⟩))
        go_roundg ((lo + hi) / 2 - lo)
        case measure => omega
        case rel => exact ⟨lo, (lo + hi) / 2, rfl, by rw [show ((lo : Int) + (hi : Int)) / 2 = (((lo + hi) / 2 : Nat) : Int) by omega], by omega, by omega, Nat.le_refl _, B.out, h1.out, fun t ht hl => I.out t ht (by have := hn.out; omega)⟩
    · have e : hi = lo := by omega
      subst e
      have he := bs_end (by have := hn.out; omega) h1.out (fun t ht hl => h2.out t ht (by have := hn.out; omega))
      obtain ⟨i1, i2⟩ := bs_in he
      rw [← hbb.out] at i1 i2
      have hp2 := hpp.out
      rw [he] at hp2
      by_cases hnn : hi < n
      · obtain ⟨gu, ou, cu', hgu, _, _, hul, ru⟩ := (hu.out.below B).there (by omega)
        cases hgu
        have cm := ru hi _ (ints_get l hi (by have := hn.out; omega))
        have i3 := i1 (by have := hn.out; omega)
        generalize l[hi]?.getD 0 = y at *
        have E := Mr.hid (show pp = hi ∧ bb = (y == x) from ⟨hp2, i3⟩)
        replace B := Mr.hid B
        clear ru i1 i2 i3 hp2 he hpp hbb
        by_cases hyx : y = x
        · have dq : (y == x) = true := by simpa using hyx
          go_wp2_with (first | (go_at_call 78; refine (less_any _ _ _).mono ?_; rintro e w' ⟨rfl, rfl⟩) | (go_at_call 120; refine (nan_any _ _).mono ?_; rintro e w' ⟨rfl, rfl⟩))
          go_ret2
          refine ⟨?_, B.out⟩
          rw [E.out.1, E.out.2, dq]
          rfl
        · have dq : (y == x) = false := by simpa using hyx
          go_wp2_with (first | (go_at_call 78; refine (less_any _ _ _).mono ?_; rintro e w' ⟨rfl, rfl⟩) | (go_at_call 120; refine (nan_any _ _).mono ?_; rintro e w' ⟨rfl, rfl⟩))
          go_ret2
          refine ⟨?_, B.out⟩
          rw [E.out.1, E.out.2, dq]
          rfl
      · have i3 := i2 (by have := hn.out; omega)
        have E := Mr.hid (show pp = hi ∧ bb = false from ⟨hp2, i3⟩)
        replace B := Mr.hid B
        clear i1 i2 i3 hp2 he hpp hbb
        go_wp2_with (first | (go_at_call 78; refine (less_any _ _ _).mono ?_; rintro e w' ⟨rfl, rfl⟩) | (go_at_call 120; refine (nan_any _ _).mono ?_; rintro e w' ⟨rfl, rfl⟩))
        go_ret2
        refine ⟨?_, B.out⟩
        rw [E.out.1, E.out.2]
        rfl
set_option maxRecDepth 1000000 in
set_option maxHeartbeats 8000000 in
theorem bsP_any {w : World} {S : Nat → Prop} {u : Value} {t : List (Int × Int)} (hu : Sl w S 2 u t.length (prs t)) (hsm : t.length * 16 ≤ 281474976710656) (hR : Ris (keysOf t)) (x : Int) :
    Calls Tryz.prog 127 #[u, .agg #[.int .i64 x, .int .i64 0], .func (.func 65) #[] #[]] w fun e w' => e = .returned (.tuple #[.int .i64 (plc (keysOf t) x : Nat), .bool (inB (keysOf t) x)]) ∧ Below w.heap.size w w' := by
  obtain ⟨au, cu, rfl, hcu⟩ := hu.form
  obtain ⟨n, hn⟩ : ∃ n, n = t.length := ⟨_, rfl⟩
  rw [← hn] at hu hsm hcu ⊢
  obtain ⟨l, hl⟩ : ∃ l, l = keysOf t := ⟨_, rfl⟩
  have hln : l.length = n := by rw [hl]; unfold keysOf; rw [List.length_map]; exact hn.symm
  have hkey : ∀ i : Nat, (l[i]?.getD 0 : Int) = (t[i]?.getD (0, 0)).1 := fun i => by rw [hl]; exact key_get t i
  rw [← hl] at hR ⊢
  obtain ⟨pp, hpp⟩ : ∃ p, p = plc l x := ⟨_, rfl⟩
  obtain ⟨bb, hbb⟩ : ∃ b, b = inB l x := ⟨_, rfl⟩
  rw [← hpp, ← hbb]
  have BX : ∀ w', Below (w.heap.size + 1) (w.alloc (.cells #[.int .i64 x, .int .i64 0] 54 (0, 0))) w' → w'.cell? ⟨w.heap.size, 0, none⟩ = some (.int .i64 x) ∧ w'.cell? ⟨w.heap.size, 1, none⟩ = some (.int .i64 0) ∧ w.heap.size < w'.heap.size := fun w' hB => by
    have h := (hB.block w.heap.size (by omega)).trans (heap_alloc_new w _)
    exact ⟨cell_blk h 0, cell_blk h 1, (Array.getElem?_eq_some_iff.1 h).1⟩
  have BW : ∀ w', Below (w.heap.size + 1) (w.alloc (.cells #[.int .i64 x, .int .i64 0] 54 (0, 0))) w' → Below w.heap.size w w' := fun w' hB => ((Below.refl w.heap.size w).alloc (Nat.le_refl _) _).trans (hB.mono (by omega))
  have B0 := Mr.hid (Below.refl (w.heap.size + 1) (w.alloc (.cells #[.int .i64 x, .int .i64 0] 54 (0, 0))))
  clear hl
  replace BX := Mr.hid BX
  replace BW := Mr.hid BW
  replace hn := Mr.hid hn
  replace hln := Mr.hid hln
  replace hkey := Mr.hid hkey
  replace hu := Mr.hid hu
  replace hR := Mr.hid hR
  replace hpp := Mr.hid hpp
  replace hbb := Mr.hid hbb
  go_enter Tryz.func127, Tryz.ntmps127
  go_wp2
  go_loopg [9, 10] n (fun g s7 s8 wr => ∃ lo hi : Nat, s7 = .int .i64 lo ∧ s8 = .int .i64 hi ∧ lo ≤ hi ∧ hi ≤ n ∧ hi - lo ≤ g ∧ Below (w.heap.size + 1) (w.alloc (.cells #[.int .i64 x, .int .i64 0] 54 (0, 0))) wr ∧ (∀ t, t < lo → l[t]?.getD 0 < x) ∧ (∀ t, hi ≤ t → t < n → x ≤ l[t]?.getD 0))
  case atStart => exact ⟨0, n, rfl, rfl, Nat.zero_le _, Nat.le_refl _, by omega, B0.out, fun t ht => absurd ht (Nat.not_lt_zero _), fun t h1 h2 => by omega⟩
  case round =>
    obtain ⟨lo, hi, rfl, rfl, hlh, hin, hg, B, h1, h2⟩ := hrel
    replace h1 := Mr.hid h1
    replace h2 := Mr.hid h2
    by_cases hlt : lo < hi
    · obtain ⟨md, hmd⟩ : ∃ m, m = (lo + hi) / 2 := ⟨_, rfl⟩
      have hmz : ((lo : Int) + (hi : Int)) / 2 = (md : Int) := by omega
      have hm1 : lo ≤ md := by omega
      have hm2 : md < hi := by omega
      have hm3 : (0 : Int) ≤ (md : Int) := by omega
      have hm4 : (md : Int) < (n : Int) := by omega
      replace hmd := Mr.hid hmd
      obtain ⟨gu, ou, cu', hgu, _, _, hul, ru⟩ := (hu.out.below (BW.out _ B)).there (by omega)
      cases hgu
      have c1 := ru _ _ (prs_get t md (by have := hn.out; omega)).1
      have c2 := ru _ _ (prs_get t md (by have := hn.out; omega)).2
      rw [← Nat.add_assoc] at c2
      rw [← hkey.out] at c1
      obtain ⟨x1, x2, hxl⟩ := BX.out _ B
      generalize (t[md]?.getD (0, 0)).2 = y' at *
      by_cases hyx : l[md]?.getD 0 < x
      · have I := Mr.hid (bs_up hR.out (by have := hln.out; omega) hyx)
        generalize l[md]?.getD 0 = y at *
        have C := fun w => byKey_any y y' x 0 w
        rw [cmpI_lt hyx] at C
        replace C := Mr.hid C
        replace B := Mr.hid B
        clear ru hyx
        go_wp2
        have KK : Hid (∀ w', Below wr.heap.size wr w' → w'.cell? ⟨gu, ou + md * 2, none⟩ = some (.int .i64 y) ∧ w'.cell? ⟨gu, ou + md * 2 + 1, none⟩ = some (.int .i64 y') ∧ w'.cell? ⟨w.heap.size, 0, none⟩ = some (.int .i64 x) ∧ w'.cell? ⟨w.heap.size, 1, none⟩ = some (.int .i64 0)) := fun w' hB => ⟨(hB.cell (p := ⟨gu, _, none⟩) hul).trans c1, (hB.cell (p := ⟨gu, _, none⟩) hul).trans c2, (hB.cell (p := ⟨w.heap.size, _, none⟩) hxl).trans x1, (hB.cell (p := ⟨w.heap.size, _, none⟩) hxl).trans x2⟩
        have K0 := Mr.hid (KK.out _ (Below.refl _ _).drew)
        go_region_held3 (fun w' => w'.cell? ⟨gu, ou + md * 2, none⟩ = some (.int .i64 y) ∧ w'.cell? ⟨gu, ou + md * 2 + 1, none⟩ = some (.int .i64 y') ∧ w'.cell? ⟨w.heap.size, 0, none⟩ = some (.int .i64 x) ∧ w'.cell? ⟨w.heap.size, 1, none⟩ = some (.int .i64 0)) (first | with_reducible exact KK.out _ hB6 | with_reducible exact K0.out | go_keep) (first | (go_at_call 65; refine (C.out _).mono ?_; rintro e w6 ⟨rfl, hB6⟩; replace hB6 : Below wr.heap.size wr w6 := ⟨hB6.os, hB6.tape, hB6.output, hB6.size, hB6.block⟩))
        have hB := Mr.hid (B.out.trans (hB6.mono (by have := B.out.size; simpa using this)))
        clear c1 c2 x1 x2 hxl hul B C KK K0 hB6
        go_wp2
        go_roundg (hi - (md + 1))
        case measure => omega
        case rel => exact ⟨md + 1, hi, by simp, rfl, by omega, hin, Nat.le_refl _, hB.out, I.out, h2.out⟩
      · have I := Mr.hid (bs_down hR.out hyx)
        generalize l[md]?.getD 0 = y at *
        have C := fun w => byKey_any y y' x 0 w
        have hq := cmpI_neg y x
        rw [decide_eq_false hyx] at hq
        generalize cmpI y x = r at *
        replace C := Mr.hid C
        replace B := Mr.hid B
        clear ru hyx
        go_wp2
        have KK : Hid (∀ w', Below wr.heap.size wr w' → w'.cell? ⟨gu, ou + md * 2, none⟩ = some (.int .i64 y) ∧ w'.cell? ⟨gu, ou + md * 2 + 1, none⟩ = some (.int .i64 y') ∧ w'.cell? ⟨w.heap.size, 0, none⟩ = some (.int .i64 x) ∧ w'.cell? ⟨w.heap.size, 1, none⟩ = some (.int .i64 0)) := fun w' hB => ⟨(hB.cell (p := ⟨gu, _, none⟩) hul).trans c1, (hB.cell (p := ⟨gu, _, none⟩) hul).trans c2, (hB.cell (p := ⟨w.heap.size, _, none⟩) hxl).trans x1, (hB.cell (p := ⟨w.heap.size, _, none⟩) hxl).trans x2⟩
        have K0 := Mr.hid (KK.out _ (Below.refl _ _).drew)
        go_region_held3 (fun w' => w'.cell? ⟨gu, ou + md * 2, none⟩ = some (.int .i64 y) ∧ w'.cell? ⟨gu, ou + md * 2 + 1, none⟩ = some (.int .i64 y') ∧ w'.cell? ⟨w.heap.size, 0, none⟩ = some (.int .i64 x) ∧ w'.cell? ⟨w.heap.size, 1, none⟩ = some (.int .i64 0)) (first | with_reducible exact KK.out _ hB6 | with_reducible exact K0.out | go_keep) (first | (go_at_call 65; refine (C.out _).mono ?_; rintro e w6 ⟨rfl, hB6⟩; replace hB6 : Below wr.heap.size wr w6 := ⟨hB6.os, hB6.tape, hB6.output, hB6.size, hB6.block⟩))
        have hB := Mr.hid (B.out.trans (hB6.mono (by have := B.out.size; simpa using this)))
        clear c1 c2 x1 x2 hxl hul B C KK K0 hB6
        go_wp2
        go_roundg (md - lo)
        case measure => omega
        case rel => exact ⟨lo, md, rfl, rfl, by omega, by omega, Nat.le_refl _, hB.out, h1.out, fun t ht hl => I.out t ht (by have := hln.out; omega)⟩
    · have e : hi = lo := by omega
      subst e
      have he := bs_end (by have := hln.out; omega) h1.out (fun t ht hl => h2.out t ht (by have := hln.out; omega))
      obtain ⟨i1, i2⟩ := bs_in he
      rw [← hbb.out] at i1 i2
      have hp2 := hpp.out
      rw [he] at hp2
      by_cases hnn : hi < n
      · obtain ⟨gu, ou, cu', hgu, _, _, hul, ru⟩ := (hu.out.below (BW.out _ B)).there (by omega)
        cases hgu
        have c1 := ru _ _ (prs_get t hi (by have := hn.out; omega)).1
        have c2 := ru _ _ (prs_get t hi (by have := hn.out; omega)).2
        rw [← Nat.add_assoc] at c2
        rw [← hkey.out] at c1
        obtain ⟨x1, x2, hxl⟩ := BX.out _ B
        generalize (t[hi]?.getD (0, 0)).2 = y' at *
        have i3 := i1 (by have := hln.out; omega)
        generalize l[hi]?.getD 0 = y at *
        have hm4 : (hi : Int) < (n : Int) := by omega
        have hm3 : (0 : Int) ≤ (hi : Int) := by omega
        have E := Mr.hid (show pp = hi ∧ bb = (y == x) from ⟨hp2, i3⟩)
        have C := fun w => byKey_any y y' x 0 w
        have hq := cmpI_zero y x
        generalize cmpI y x = r at *
        replace C := Mr.hid C
        replace B := Mr.hid B
        clear ru i1 i2 i3 hp2 he hpp hbb
        by_cases hyx : y = x
        · have dq : (y == x) = true := by simpa using hyx
          rw [dq] at hq
          clear hyx
          go_wp2
          have KK : Hid (∀ w', Below wr.heap.size wr w' → w'.cell? ⟨gu, ou + hi * 2, none⟩ = some (.int .i64 y) ∧ w'.cell? ⟨gu, ou + hi * 2 + 1, none⟩ = some (.int .i64 y') ∧ w'.cell? ⟨w.heap.size, 0, none⟩ = some (.int .i64 x) ∧ w'.cell? ⟨w.heap.size, 1, none⟩ = some (.int .i64 0)) := fun w' hB => ⟨(hB.cell (p := ⟨gu, _, none⟩) hul).trans c1, (hB.cell (p := ⟨gu, _, none⟩) hul).trans c2, (hB.cell (p := ⟨w.heap.size, _, none⟩) hxl).trans x1, (hB.cell (p := ⟨w.heap.size, _, none⟩) hxl).trans x2⟩
          have K0 := Mr.hid (KK.out _ (Below.refl _ _).drew)
          go_region_held3 (fun w' => w'.cell? ⟨gu, ou + hi * 2, none⟩ = some (.int .i64 y) ∧ w'.cell? ⟨gu, ou + hi * 2 + 1, none⟩ = some (.int .i64 y') ∧ w'.cell? ⟨w.heap.size, 0, none⟩ = some (.int .i64 x) ∧ w'.cell? ⟨w.heap.size, 1, none⟩ = some (.int .i64 0)) (first | with_reducible exact KK.out _ hB6 | with_reducible exact K0.out | go_keep) (first | (go_at_call 65; refine (C.out _).mono ?_; rintro e w6 ⟨rfl, hB6⟩; replace hB6 : Below wr.heap.size wr w6 := ⟨hB6.os, hB6.tape, hB6.output, hB6.size, hB6.block⟩))
          have hB := Mr.hid (B.out.trans (hB6.mono (by have := B.out.size; simpa using this)))
          clear c1 c2 x1 x2 hxl hul B C KK K0 hB6
          go_wp2
          go_ret2
          refine ⟨?_, BW.out _ hB.out⟩
          rw [E.out.1, E.out.2, dq]
          rfl
        · have dq : (y == x) = false := by simpa using hyx
          rw [dq] at hq
          clear hyx
          go_wp2
          have KK : Hid (∀ w', Below wr.heap.size wr w' → w'.cell? ⟨gu, ou + hi * 2, none⟩ = some (.int .i64 y) ∧ w'.cell? ⟨gu, ou + hi * 2 + 1, none⟩ = some (.int .i64 y') ∧ w'.cell? ⟨w.heap.size, 0, none⟩ = some (.int .i64 x) ∧ w'.cell? ⟨w.heap.size, 1, none⟩ = some (.int .i64 0)) := fun w' hB => ⟨(hB.cell (p := ⟨gu, _, none⟩) hul).trans c1, (hB.cell (p := ⟨gu, _, none⟩) hul).trans c2, (hB.cell (p := ⟨w.heap.size, _, none⟩) hxl).trans x1, (hB.cell (p := ⟨w.heap.size, _, none⟩) hxl).trans x2⟩
          have K0 := Mr.hid (KK.out _ (Below.refl _ _).drew)
          go_region_held3 (fun w' => w'.cell? ⟨gu, ou + hi * 2, none⟩ = some (.int .i64 y) ∧ w'.cell? ⟨gu, ou + hi * 2 + 1, none⟩ = some (.int .i64 y') ∧ w'.cell? ⟨w.heap.size, 0, none⟩ = some (.int .i64 x) ∧ w'.cell? ⟨w.heap.size, 1, none⟩ = some (.int .i64 0)) (first | with_reducible exact KK.out _ hB6 | with_reducible exact K0.out | go_keep) (first | (go_at_call 65; refine (C.out _).mono ?_; rintro e w6 ⟨rfl, hB6⟩; replace hB6 : Below wr.heap.size wr w6 := ⟨hB6.os, hB6.tape, hB6.output, hB6.size, hB6.block⟩))
          have hB := Mr.hid (B.out.trans (hB6.mono (by have := B.out.size; simpa using this)))
          clear c1 c2 x1 x2 hxl hul B C KK K0 hB6
          go_wp2
          go_ret2
          refine ⟨?_, BW.out _ hB.out⟩
          rw [E.out.1, E.out.2, dq]
          rfl
      · have i3 := i2 (by have := hln.out; omega)
        have E := Mr.hid (show pp = hi ∧ bb = false from ⟨hp2, i3⟩)
        have dn : decide ((hi : Int) < (n : Int)) = false := decide_eq_false (by omega)
        have BB := Mr.hid (BW.out _ B)
        clear i1 i2 i3 hp2 he hpp hbb B
        go_wp2
        go_quiet (fail)
        have hBq := Bx.draws w.heap.size wr nq
        have hB := Mr.hid (BB.out.trans hBq)
        clear hBq BB
        generalize wr.drewN nq = W6 at *
        go_wp2
        go_ret2
        refine ⟨?_, hB.out⟩
        rw [E.out.1, E.out.2]
        rfl
end Go.Proofs.YtfgnaffomglmdaaGreat.Md
/-
  Package model: slices.Delete of one element.
-/
namespace Go.Proofs.YtfgnaffomglmdaaGreat.Md
open Go.RowKit Mr
set_option linter.unusedVariables false
set_option linter.unusedSimpArgs false
set_option maxRecDepth 100000 in
set_option maxHeartbeats 4000000 in
theorem deleteI_any {w : World} {S : Nat → Prop} {v : Value} {l : List Int} (hv : Own w S 3 1 v l.length (ints l)) (i : Nat) (hi : i < l.length) :
    Calls Tryz.prog 119 #[v, .int .i64 (i : Int), .int .i64 ((i : Int) + 1)] w fun e w' => ∃ v', e = .returned v' ∧ Own w' S 3 1 v' (l.length - 1) (ints (l.take i ++ l.drop (i + 1))) ∧ Fr w w' S := by
  obtain ⟨i0, hinf, hz0, hz1, hz2⟩ := info_parts mp_int
  obtain ⟨g, o, cap, cur, rfl, hc, hm, hS, hg, hs, hx⟩ := hv.there (by omega)
  have hlen := hv.1
  have h1 := ints_one l
  have hcut := ints_cut l i
  clear hv
  generalize ints (l.take i ++ l.drop (i + 1)) = ys at *
  generalize ints l = xs at *
  generalize l.length = n at *
  unfold maxLen at hm
  have hgl := (Array.getElem?_eq_some_iff.1 hg).1
  -- the append
  obtain ⟨A, hA, hsrc⟩ : ∃ A : Addr, (if cap = i + 1 then some (⟨g, o, none⟩ : Addr) else some ⟨g, o + (i + 1), none⟩) = some A ∧ ∀ t u, (xs.drop ((i + 1) * 1))[t]? = some u → w.drew.cell? (A.add t) = some u := by
    by_cases h : cap = i + 1
    · refine ⟨_, if_pos h, fun t u hu => ?_⟩
      rw [List.getElem?_drop, List.getElem?_eq_none (by omega)] at hu
      cases hu
    · refine ⟨_, if_neg h, fun t u hu => ?_⟩
      rw [List.getElem?_drop] at hu
      have := own_cells hg hx _ u hu
      rw [add1]
      rw [show o + (i + 1) + t = o + ((i + 1) * 1 + t) from by omega]
      exact this
  obtain ⟨cur1, hcur1⟩ : ∃ c1, c1 = (cur.toList.take (o + i * i0.size) ++ xs.drop ((i + 1) * 1) ++ cur.toList.drop (o + i * i0.size + (xs.drop ((i + 1) * 1)).length)).toArray := ⟨_, rfl⟩
  have hr1 := fun ty => run_append_at (P := Tryz.prog) w.drew 23 ty 3 3 i0 Tryz.underlying23 hinf g o i cap cur hg A (n - (i + 1)) (cap - (i + 1)) (xs.drop ((i + 1) * 1)) (by rw [hz1, List.length_drop, hlen, Nat.sub_mul]) hsrc (fun u hu => h1 u (List.mem_of_mem_drop hu)) (by omega) (by rw [hz1, List.length_drop]; omega)
  rw [← hcur1] at hr1
  have hg1 : (w.drew.setRow g cur1).heap[g]? = some (.cells cur1 3 (0, 0)) := setRow_heap w.drew g cur _ _ _ hg
  have hs1 : cur1.size = cur.size := by
    rw [hcur1, hz1]
    have := seg_size cur.toList (xs.drop ((i + 1) * 1)) (o + i * 1) (by rw [List.length_drop]; simp; omega)
    simpa using this
  have hx1 : (cur1.toList.drop o).take ((n - 1) * 1) = ys := by
    have h2 := seg_put cur.toList o (i * 1) (xs.drop ((i + 1) * 1)) (xs.take (i * 1)) (seg_take _ _ _ _ _ hx (by omega)) (by rw [List.length_take]; omega) (by rw [List.length_drop]; simp; omega)
    rw [hcur1, hz1, ← hcut]
    rw [List.length_drop, hlen] at h2
    rw [List.length_drop, hlen]
    rw [show (n - 1) * 1 = i * 1 + (n * 1 - (i + 1) * 1) from by omega]
    simpa using h2
  -- the clearing
  have hr2 := fun ty c => run_clear_at (P := Tryz.prog) (w.drew.setRow g cur1) 23 3 3 ty (.int .i64 0) Tryz.underlying23 (fun w => by simp [zeroValue, typeInfo, hinf, hz0]) g (o + (n - 1)) 1 c (by omega) cur1 [Value.int .i64 0] (by kernel_rfl) hg1 (by simp; omega) (by intro u hu; simp at hu; subst hu; rfl)
  obtain ⟨cur2, hcur2⟩ : ∃ c2, c2 = (cur1.toList.take (o + (n - 1)) ++ [Value.int .i64 0] ++ cur1.toList.drop (o + (n - 1) + ([Value.int .i64 0] : List Value).length)).toArray := ⟨_, rfl⟩
  rw [← hcur2] at hr2
  have hE : (Own ((w.drew.setRow g cur1).setRow g cur2) S 3 1 (.slice (some ⟨g, o, none⟩) (n - 1) cap) (n - 1) ys ∧ Fr w ((w.drew.setRow g cur1).setRow g cur2) S) := by
    refine ⟨⟨by rw [← hcut, List.length_append, List.length_take, List.length_drop, hlen]; omega, _, cap, rfl, by omega, by unfold maxLen; omega, .inr ⟨g, o, cur2, rfl, hS, setRow_heap _ g cur1 _ _ _ hg1, ?_, ?_⟩⟩, ?_⟩
    · rw [hcur2]
      have := seg_size cur1.toList [Value.int .i64 0] (o + (n - 1)) (by simp; omega)
      simp only [List.size_toArray]
      rw [this]
      simp; omega
    · rw [hcur2]
      have := seg_keep cur1.toList [Value.int .i64 0] o ((n - 1) * 1) (o + (n - 1)) (o + (n - 1) + ([Value.int .i64 0] : List Value).length) (by omega) (by simp; omega)
      rw [this]
      exact hx1
    · exact (Fr.refl w S).drew.trans ((setRow_fr (Or.inl hS) _).trans (setRow_fr (Or.inl (Or.inl hS)) _))
  clear hcur1 hcur2 hx1 hs1 hg1 hsrc hx hs hg hcut h1 hlen
  have q1 : (0 : Int) ≤ (i : Int) := by omega
  have q2 : (i : Int) ≤ (i : Int) + 1 := by omega
  have q3 : (i : Int) + 1 ≤ (n : Int) := by omega
  have q4 : (n : Int) ≤ (cap : Int) := by omega
  have q5 : (i : Int) ≤ (cap : Int) := by omega
  have q6 : ¬ ((i : Int) = (i : Int) + 1) := by omega
  have q7 : ((i : Int) == (i : Int) + 1) = false := by simpa using q6
  have q8 : (0 : Int) ≤ (i : Int) + 1 := by omega
  obtain ⟨k, rfl⟩ : ∃ k, n = k + 1 := ⟨n - 1, by omega⟩
  simp only [Nat.add_sub_cancel, Nat.add_sub_add_right] at hr1 hr2 hE ⊢
  rw [show i + (k - i) = k from by omega] at hr1
  have q9 : (0 : Int) ≤ (k : Int) := by omega
  have qa : (k : Int) ≤ (k : Int) + 1 := by omega
  have qb : (k : Int) + 1 ≤ (cap : Int) := by omega
  have qc : ¬ cap = k := by omega
  have qd : i ≤ k := by omega
  replace hr1 := Mr.hid hr1
  replace hr2 := Mr.hid hr2
  replace hE := Mr.hid hE
  go_enter Tryz.func119, Tryz.ntmps119
  go_wp2
  go_region_law (first | (refine step_run2 _ rfl (.tmp 22) (.tmp 25) 23 23 (.slice (some ⟨g, o, none⟩) i cap) (.slice (some A) (k - i) (cap - (i + 1))) _ _ rfl (by simp [Act.eval, Act.put]) (by simp [Act.eval, Act.put, hA]) (hr1.out _) ?_))
  all_goals
    have hr3 := hr2.out 0
    go_wp2
    go_ret
    exact ⟨_, rfl, hE.out.1, hE.out.2⟩
set_option maxRecDepth 100000 in
set_option maxHeartbeats 4000000 in
theorem deleteP_any {w : World} {S : Nat → Prop} {v : Value} {l : List (Int × Int)} (hv : Own w S 54 2 v l.length (prs l)) (i : Nat) (hi : i < l.length) :
    Calls Tryz.prog 129 #[v, .int .i64 (i : Int), .int .i64 ((i : Int) + 1)] w fun e w' => ∃ v', e = .returned v' ∧ Own w' S 54 2 v' (l.length - 1) (prs (l.take i ++ l.drop (i + 1))) ∧ Fr w w' S := by
  obtain ⟨i0, hinf, hz0, hz1, hz2⟩ := info_parts mp_pair
  obtain ⟨g, o, cap, cur, rfl, hc, hm, hS, hg, hs, hx⟩ := hv.there (by omega)
  have hlen := hv.1
  have h1 := prs_one l
  have hcut := prs_cut l i
  clear hv
  generalize prs (l.take i ++ l.drop (i + 1)) = ys at *
  generalize prs l = xs at *
  generalize l.length = n at *
  unfold maxLen at hm
  have hgl := (Array.getElem?_eq_some_iff.1 hg).1
  -- the append
  obtain ⟨A, hA, hsrc⟩ : ∃ A : Addr, (if cap = i + 1 then some (⟨g, o, none⟩ : Addr) else some ⟨g, o + (i + 1) * 2, none⟩) = some A ∧ ∀ t u, (xs.drop ((i + 1) * 2))[t]? = some u → w.drew.cell? (A.add t) = some u := by
    by_cases h : cap = i + 1
    · refine ⟨_, if_pos h, fun t u hu => ?_⟩
      rw [List.getElem?_drop, List.getElem?_eq_none (by omega)] at hu
      cases hu
    · refine ⟨_, if_neg h, fun t u hu => ?_⟩
      rw [List.getElem?_drop] at hu
      have := own_cells hg hx _ u hu
      rw [add1]
      rw [show o + (i + 1) * 2 + t = o + ((i + 1) * 2 + t) from by omega]
      exact this
  obtain ⟨cur1, hcur1⟩ : ∃ c1, c1 = (cur.toList.take (o + i * i0.size) ++ xs.drop ((i + 1) * 2) ++ cur.toList.drop (o + i * i0.size + (xs.drop ((i + 1) * 2)).length)).toArray := ⟨_, rfl⟩
  have hr1 := fun ty => run_append_at (P := Tryz.prog) w.drew 39 ty 54 54 i0 Tryz.underlying39 hinf g o i cap cur hg A (n - (i + 1)) (cap - (i + 1)) (xs.drop ((i + 1) * 2)) (by rw [hz1, List.length_drop, hlen, Nat.sub_mul]) hsrc (fun u hu => h1 u (List.mem_of_mem_drop hu)) (by omega) (by rw [hz1, List.length_drop]; omega)
  rw [← hcur1] at hr1
  have hg1 : (w.drew.setRow g cur1).heap[g]? = some (.cells cur1 54 (0, 0)) := setRow_heap w.drew g cur _ _ _ hg
  have hs1 : cur1.size = cur.size := by
    rw [hcur1, hz1]
    have := seg_size cur.toList (xs.drop ((i + 1) * 2)) (o + i * 2) (by rw [List.length_drop]; simp; omega)
    simpa using this
  have hx1 : (cur1.toList.drop o).take ((n - 1) * 2) = ys := by
    have h2 := seg_put cur.toList o (i * 2) (xs.drop ((i + 1) * 2)) (xs.take (i * 2)) (seg_take _ _ _ _ _ hx (by omega)) (by rw [List.length_take]; omega) (by rw [List.length_drop]; simp; omega)
    rw [hcur1, hz1, ← hcut]
    rw [List.length_drop, hlen] at h2
    rw [List.length_drop, hlen]
    rw [show (n - 1) * 2 = i * 2 + (n * 2 - (i + 1) * 2) from by omega]
    simpa using h2
  -- the clearing
  have hr2 := fun ty c => run_clear_at (P := Tryz.prog) (w.drew.setRow g cur1) 39 54 54 ty (.agg #[.int .i64 0, .int .i64 0]) Tryz.underlying39 (fun w => by simp [zeroValue, typeInfo, hinf, hz0]) g (o + (n - 1) * 2) 1 c (by omega) cur1 [Value.int .i64 0, Value.int .i64 0] (by kernel_rfl) hg1 (by simp; omega) (by intro u hu; simp at hu; rcases hu with rfl | rfl <;> rfl)
  obtain ⟨cur2, hcur2⟩ : ∃ c2, c2 = (cur1.toList.take (o + (n - 1) * 2) ++ [Value.int .i64 0, Value.int .i64 0] ++ cur1.toList.drop (o + (n - 1) * 2 + ([Value.int .i64 0, Value.int .i64 0] : List Value).length)).toArray := ⟨_, rfl⟩
  rw [← hcur2] at hr2
  have hE : (Own ((w.drew.setRow g cur1).setRow g cur2) S 54 2 (.slice (some ⟨g, o, none⟩) (n - 1) cap) (n - 1) ys ∧ Fr w ((w.drew.setRow g cur1).setRow g cur2) S) := by
    refine ⟨⟨by rw [← hcut, List.length_append, List.length_take, List.length_drop, hlen]; omega, _, cap, rfl, by omega, by unfold maxLen; omega, .inr ⟨g, o, cur2, rfl, hS, setRow_heap _ g cur1 _ _ _ hg1, ?_, ?_⟩⟩, ?_⟩
    · rw [hcur2]
      have := seg_size cur1.toList [Value.int .i64 0, Value.int .i64 0] (o + (n - 1) * 2) (by simp; omega)
      simp only [List.size_toArray]
      rw [this]
      simp; omega
    · rw [hcur2]
      have := seg_keep cur1.toList [Value.int .i64 0, Value.int .i64 0] o ((n - 1) * 2) (o + (n - 1) * 2) (o + (n - 1) * 2 + ([Value.int .i64 0, Value.int .i64 0] : List Value).length) (by omega) (by simp; omega)
      rw [this]
      exact hx1
    · exact (Fr.refl w S).drew.trans ((setRow_fr (Or.inl hS) _).trans (setRow_fr (Or.inl (Or.inl hS)) _))
  clear hcur1 hcur2 hx1 hs1 hg1 hsrc hx hs hg hcut h1 hlen
  have q1 : (0 : Int) ≤ (i : Int) := by omega
  have q2 : (i : Int) ≤ (i : Int) + 1 := by omega
  have q3 : (i : Int) + 1 ≤ (n : Int) := by omega
  have q4 : (n : Int) ≤ (cap : Int) := by omega
  have q5 : (i : Int) ≤ (cap : Int) := by omega
  have q6 : ¬ ((i : Int) = (i : Int) + 1) := by omega
  have q7 : ((i : Int) == (i : Int) + 1) = false := by simpa using q6
  have q8 : (0 : Int) ≤ (i : Int) + 1 := by omega
  obtain ⟨k, rfl⟩ : ∃ k, n = k + 1 := ⟨n - 1, by omega⟩
  simp only [Nat.add_sub_cancel, Nat.add_sub_add_right] at hr1 hr2 hE ⊢
  rw [show i + (k - i) = k from by omega] at hr1
  have q9 : (0 : Int) ≤ (k : Int) := by omega
  have qa : (k : Int) ≤ (k : Int) + 1 := by omega
  have qb : (k : Int) + 1 ≤ (cap : Int) := by omega
  have qc : ¬ cap = k := by omega
  have qd : i ≤ k := by omega
  replace hr1 := Mr.hid hr1
  replace hr2 := Mr.hid hr2
  replace hE := Mr.hid hE
  go_enter Tryz.func129, Tryz.ntmps129
  go_wp2
  go_region_law (first | (refine step_run2 _ rfl (.tmp 22) (.tmp 25) 39 39 (.slice (some ⟨g, o, none⟩) i cap) (.slice (some A) (k - i) (cap - (i + 1))) _ _ rfl (by simp [Act.eval, Act.put]) (by simp [Act.eval, Act.put, hA]) (hr1.out _) ?_))
  all_goals
    have hr3 := hr2.out 0
    go_wp2
    go_ret
    exact ⟨_, rfl, hE.out.1, hE.out.2⟩
set_option maxRecDepth 100000 in
set_option maxHeartbeats 2000000 in
theorem find_any {W : World} {S : Nat → Prop} {g : Nat} {t : List (Int × Int)} (ho : Ob W S g 112 54 2 t.length (prs t)) (hsm : t.length * 16 ≤ 281474976710656) (hR : Ris (keysOf t)) (x : Int) :
    Calls Tryz.prog 125 #[.pointer (some ⟨g, 0, none⟩), .int .i64 x] W fun e w' => e = .returned (.tuple #[.int .i64 (plc (keysOf t) x : Nat), .bool (inB (keysOf t) x)]) ∧ Below W.heap.size W w' := by
  obtain ⟨v, hS, hg, hO⟩ := ho
  have hgl := (Array.getElem?_eq_some_iff.1 hg).1
  have cg : W.cell? ⟨g, 0, none⟩ = some v := cell_blk hg 0
  have C := bsP_any hO.sl hsm hR x
  obtain ⟨a, c, rfl, _, _⟩ := hO.form
  replace C := Mr.hid C
  clear hg hO hR
  go_enter Tryz.func125, Tryz.ntmps125
  go_wp2_with (go_at_call 127; refine C.out.mono ?_; rintro e w1 ⟨rfl, hB⟩)
  go_ret2
  exact ⟨rfl, hB⟩
end Go.Proofs.YtfgnaffomglmdaaGreat.Md
