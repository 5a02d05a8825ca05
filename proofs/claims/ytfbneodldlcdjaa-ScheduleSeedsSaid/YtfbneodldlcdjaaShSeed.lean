/-
  SCHEDULE: Seeded, the program's.
-/
import Derived.Test.YtfbneodldlcdjaaShSums
namespace Go.Proofs.Ytfbneodldlcdjaa.Sh
open Go.RowKit Mr Md
set_option linter.unusedVariables false
set_option linter.unusedSimpArgs false
set_option maxRecDepth 100000
/-- Who is refused, and how. -/
inductive Sr (ws : List Int) : Int → Int → Prop
  | many {s : Int} (h : 16 < ws.length) : Sr ws s 3
  | long {s : Int} (h : ws.length ≤ 16) (h1 : 65536 < s) : Sr ws s 3
  | bad {s : Int} (h : ws.length ≤ 16) (h1 : s ≤ 65536) (h2 : ¬ okW ws) : Sr ws s 2
  | none {s : Int} (h : ws.length ≤ 16) (h1 : s ≤ 65536) (h2 : okW ws) (h3 : ws.sum = 0) : Sr ws s 2
  | low {s : Int} (h : ws.length ≤ 16) (h1 : s < 0) (h2 : okW ws) (h3 : 0 < ws.sum) : Sr ws s 2
theorem sr_cases (ws : List Int) (s : Int) : (∃ e, Sr ws s e) ∨ ∃ n : Nat, s = (n : Int) ∧ n ≤ 65536 ∧ ws.length ≤ 16 ∧ okW ws ∧ 0 < ws.sum := by
  by_cases h : 16 < ws.length
  · exact .inl ⟨3, .many h⟩
  · by_cases h1 : 65536 < s
    · exact .inl ⟨3, .long (by omega) h1⟩
    · by_cases h2 : okW ws
      · have := (sum_bd ws h2).1
        by_cases h3 : ws.sum = 0
        · exact .inl ⟨2, .none (by omega) (by omega) h2 h3⟩
        · by_cases h4 : s < 0
          · exact .inl ⟨2, .low (by omega) h4 h2 (by omega)⟩
          · exact .inr ⟨s.toNat, by omega, by omega, by omega, h2, by omega⟩
      · exact .inl ⟨2, .bad (by omega) (by omega) h2⟩
theorem wrap_id {x : Int} (h0 : 0 ≤ x) (h1 : x ≤ 1048576) : IntKind.u64.wrap x = x := by
  simp [IntKind.wrap, IntKind.signed, IntKind.bits]; omega
theorem rr_eq {x t : Int} (h : 0 < t) (h1 : t ≤ 1048576) (hx : 0 ≤ x) : wrap64 (x.tmod t) = x % t := by
  rw [Int.tmod_eq_emod_of_nonneg hx]
  have h2 := Int.emod_lt_of_pos x h
  have h3 := Int.emod_nonneg x (by omega : t ≠ 0)
  generalize x % t = y at *
  unfold wrap64
  omega
set_option maxHeartbeats 8000000 in
theorem seeded_ok {W : World} {T : Nat → Prop} {v : Value} {ws : List Int} (hv : Sl W T 1 v ws.length (ints ws)) (hn : ws.length ≤ 16) (hok : okW ws) (hs : 0 < ws.sum) (s : Int) (hs0 : 0 ≤ s) (hs1 : s ≤ 18446744073709551615) (m : Nat) (hm : m ≤ 65536) :
    Calls Try.prog 10 #[.int .u64 s, v, .int .i64 (m : Int)] W fun r w' => ∃ u, r = .returned (.tuple #[u, .int .i64 0]) ∧ Nw W w' u (sdl ws s m) := by
  have hb : decide (0 < ws.sum) = true := decide_eq_true hs
  obtain ⟨a, c, rfl, hc⟩ := hv.form
  have hq : ws.length ≠ 0 := by
    intro h
    have : ws = [] := List.eq_nil_of_length_eq_zero h
    subst this; simp at hs
  obtain ⟨q, hq⟩ : ∃ q, ws.length = q + 1 := ⟨ws.length - 1, by omega⟩
  have K := Mr.hid (sums_ok hv hn hok true hb)
  have hM := fun W => make_in W m (by omega)
  have hN := Mr.hid (fun V => nw_make V V (Below.refl _ _) m (by unfold maxLen; omega))
  rw [hq] at K hn hc ⊢
  have hm0 : (0 : Int) ≤ (m : Int) := by omega
  have hm1 : (m : Int) ≤ 65536 := by omega
  have hn1 : (q : Int) + 1 ≤ 16 := by omega
  have hbd := sum_bd ws hok
  rw [hq] at hbd
  have hbd1 : ws.sum ≤ 1048576 := by omega
  have hws := wrap_id (x := ws.sum) (by omega) hbd1
  replace hv := Mr.hid hv
  replace hok := Mr.hid hok
  replace hbd := Mr.hid hbd
  replace hq := Mr.hid hq
  clear hb hc
  go_enter Try.func10, Try.ntmps10
  go_upto_region 4 with (go_at_call 14; refine K.out.mono ?_; clear K; rintro e V ⟨u, rfl, hu⟩)
  obtain ⟨g, o, cp, cur, rfl, -⟩ := hu.own.there (by rw [sms_len, hq.out]; omega)
  have hug : (sms ws)[q]? = some ws.sum := by rw [sms_get (by rw [hq.out]; omega), ← hq.out, List.take_length]
  obtain ⟨k1, f1, kl⟩ := hu.cell hug
  have hlen : (sms ws).length = q + 1 := by rw [sms_len, hq.out]
  have hul := hu
  rw [hlen] at hu ⊢
  replace hul := Mr.hid hul
  replace hug := Mr.hid hug
  replace hlen := Mr.hid hlen
  have hV := Mr.hid (hN.out V)
  have hB := Mr.hid hu.bel
  have hsl := hul.out.own.sl
  replace hsl := Mr.hid hsl
  replace hu := Mr.hid hu
  clear hN
  have hw5 : IntKind.i64.wrap ((q : Int) + 1 - 1) = (q : Int) := by rw [show (q : Int) + 1 - 1 = (q : Int) from by omega]; exact i64x _ (by omega) (by omega)
  have hw6 : IntKind.i64.wrap (q : Int) = (q : Int) := i64x _ (by omega) (by omega)
  have hq6 : (q : Int) < (q : Int) + 1 := by omega
  go_wp2
  go_loopg [0, 43] m (fun k s0 s43 wr => ∃ i : Nat, s0 = .int .u64 (st s i) ∧ s43 = .int .i64 (i : Int) ∧ i + k = m ∧ Nw V wr (.slice (some ⟨V.heap.size, 0, none⟩) m m) (sdz ws s m i))
  case atStart => exact ⟨0, rfl, rfl, by omega, by have := hV.out; simpa [sdz, sdl] using this⟩
  case round =>
    clear hV k1 f1 kl
    obtain ⟨i, rfl, rfl, hi, hA⟩ := hrel
    by_cases hlt : i < m
    · obtain ⟨k1, f1, kl⟩ := hA.cell (sdz_get ws s m i hlt)
      rw [Nat.zero_add] at k1 f1
      have hlI : (i : Int) < (m : Int) := by omega
      have hw1 : IntKind.i64.wrap ((i : Int) + 1) = (i : Int) + 1 := i64x _ (by omega) (by omega)
      have hX := Mr.hid (hA.put (sdz_len ws s m i (by omega)) hlt ((pkf ws s i : Nat) : Int))
      rw [sdz_set ws s m i hlt] at hX
      have hz : (ws.sum == 0) = false := by simp; omega
      have hz1 : ¬ ws.sum = 0 := by omega
      replace hA := Mr.hid hA
      have hnb := nxt_bd (st s i)
      obtain ⟨rr, hrr⟩ : ∃ rr, rr = st s (i + 1) / 8589934592 % ws.sum := ⟨_, rfl⟩
      have hP := pkf_pk hs s i
      rw [← hrr] at hP
      have hr := rr_eq (x := nxt (st s i) / 8589934592) hs hbd1 (Int.ediv_nonneg hnb.1 (by omega))
      rw [show nxt (st s i) / 8589934592 % ws.sum = rr from hrr.symm] at hr
      unfold nxt at hr
      have I := fun (o : Obj) (ho : o = .cells #[.int .i64 rr] 3 (0, 0)) => index_any (W := wr.alloc o) ((hsl.out.below hA.out.bel).below ((Below.refl wr.heap.size wr).alloc (Nat.le_refl _) o)) (by rw [hlen.out]; exact hn) rr wr.heap.size (by rw [cell_blk (new_at wr o _ rfl |>.trans (by rw [ho]))]; rfl) (by simp) (pkf ws s i) _ (sms_get hP.lt) hP.hi (fun j x hj hx => by
        rw [sms_get (Nat.lt_trans hj hP.lt)] at hx
        cases hx
        exact hP.lo j hj)
      rw [hlen.out] at I
      replace I := Mr.hid (I _ rfl)
      replace hX := Mr.hid (hX.out.below ((Below.refl _ _).alloc (Nat.le_refl _) (.cells #[.int .i64 rr] 3 (0, 0))))
      replace hrr := Mr.hid hrr
      replace hP := Mr.hid hP
      replace hnb := Mr.hid hnb
      replace hr := Mr.hid hr
      obtain ⟨pv, hpv⟩ : ∃ pv, pv = pkf ws s i := ⟨_, rfl⟩
      rw [← hpv] at I hX
      replace hpv := Mr.hid hpv
      go_upto_region 13 with (fail)
      rw [hr.out]
      go_wp2_with (go_at_call 15; refine I.out.mono ?_; rintro e w3 ⟨rfl, rfl⟩)
      go_roundg (gk - 1)
      case measure => omega
      case rel => exact ⟨i + 1, rfl, by simp, by omega, hX.out⟩
    · have hin : i = m := by omega
      rw [hin, sdz_end] at hA
      have dl : decide ((i : Int) < (m : Int)) = false := decide_eq_false (by omega)
      have dl2 : decide (i < m) = false := decide_eq_false (by omega)
      replace hA := Mr.hid (hA.elder hB.out)
      clear hin hi
      go_wp2
      go_ret2
      exact ⟨_, rfl, hA.out⟩
end Go.Proofs.Ytfbneodldlcdjaa.Sh
