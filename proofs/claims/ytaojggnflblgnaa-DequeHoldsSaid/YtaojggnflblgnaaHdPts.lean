/-
  DEQUE: the document's byPoint.
-/
import Derived.Test.YtaojggnflblgnaaHdAhead
namespace Go.Proofs.Ytaojggnflblgnaa.Hd
open Go.RowKit Mr Md
set_option linter.unusedVariables false
set_option linter.unusedSimpArgs false
set_option maxRecDepth 100000
theorem i64x (x : Int) (h1 : -9223372036854775808 ≤ x) (h2 : x ≤ 9223372036854775807) : IntKind.i64.wrap x = x := Dq.i64x x h1 h2
set_option maxHeartbeats 16000000 in
theorem byPoint_any {T : Nat → Prop} {W : World} {v : Value} {cs : List Cq} (hv : Sl W T 9 v cs.length (cqs cs)) (hsm : cs.length * 72 ≤ 281474976710656) :
    Calls Try.prog 17 #[v] W fun e w' => ∃ u l, e = .returned u ∧ Nw W w' u l ∧ l.Perm (pix cs 0) ∧ l.Pairwise (fun a b => ptAt cs a ≤ ptAt cs b) := by
  obtain ⟨i0, hi0, hz0, hz1, hz2⟩ := Dq.info_i
  obtain ⟨a, cap, rfl, hcap⟩ := hv.form
  obtain ⟨n, hn⟩ : ∃ n, n = cs.length := ⟨_, rfl⟩
  rw [← hn] at hsm hcap ⊢
  replace hn := Mr.hid hn
  replace hv := Mr.hid hv
  go_enter Try.func17, Try.ntmps17
  go_wp2
  go_loopg [3, 4] n (fun k s3 s4 wr => ∃ (i : Nat) (l : List Int), s4 = .int .i64 (i : Int) ∧ i + k = n ∧ Nw W wr s3 l ∧ l.Perm (pix (cs.take i) 0) ∧ l.Pairwise (fun a b => ptAt cs a ≤ ptAt cs b))
  case atStart => exact ⟨0, [], rfl, by omega, ⟨Below.refl _ _, Own.zero _ _ _ _ _⟩, by simp [pix], List.Pairwise.nil⟩
  case round =>
    obtain ⟨i, l, rfl, hi, hA, hP, hL⟩ := hrel
    by_cases hlt : i < n
    · obtain ⟨c, hci⟩ : ∃ c, cs[i]? = some c := ⟨_, List.getElem?_eq_getElem (by rw [← hn.out]; omega)⟩
      obtain ⟨bc, oc, rfl, -⟩ := cqx_at (hv.out.below hA.bel) hci
      have RD : ∀ (j : Nat) (d : Cq), cs[j]? = some d → ∀ w, Below W.heap.size W w → CqAt w bc (oc + j * 9) d := fun j d hd w hB => by
        obtain ⟨b', o', e, _, h⟩ := cqx_at (hv.out.below hB) hd
        cases e; exact h
      have RC := RD i c hci
      obtain ⟨u, cu, rfl, hcu, hcm⟩ := hA.own.form
      have hll : l.length ≤ i := by rw [hP.length_eq]; exact Nat.le_trans (pix_len _ _) (by simp; omega)
      have hnx := pix_take cs i c hci
      have hpc : ptAt cs (i : Int) = c.key := ptAt_get hci
      obtain ⟨hbl, g0, g1, g2, g3, g4, g5, g6, g7, g8⟩ := RC _ hA.bel
      have hlI : (i : Int) < (n : Int) := by omega
      have hw1 : IntKind.i64.wrap ((i : Int) + 1) = (i : Int) + 1 := i64x _ (by omega) (by omega)
      replace RC := Mr.hid RC
      replace RD := Mr.hid RD
      replace hci := Mr.hid hci
      replace hnx := Mr.hid hnx
      replace hP := Mr.hid hP
      replace hL := Mr.hid hL
      replace hA := Mr.hid hA
      replace hpc := Mr.hid hpc
      by_cases hct : c.pt ≠ -1
      · have hct2 : (c.pt == -1) = false := by simp [hct]
        have hnx2 := Mr.hid (show pix (cs.take (i + 1)) 0 = pix (cs.take i) 0 ++ [(i : Int)] by rw [hnx.out, if_pos hct])
        replace hct := Mr.hid hct
        go_upto_region 6 with (fail)
        clear g0 g1 g2 g3 g4 g5 g6 g7 g8 hbl
        go_upto_region 7 with (at_builtin; refine wpList_append_mine _ rfl (.tmp 18) (.tmp 20) 37 rfl (fun k => W.heap.size ≤ k) 3 i0 _ 1 8 Try.underlying37 hi0 hz0 hz1 hz2 rfl _ l.length (ints l) rfl (hA.out.own.below ((Below.refl _ _).alloc (Nat.le_refl _) _)) (some ⟨wr.heap.size, 0, none⟩) 1 1 [.int .i64 (i : Int)] rfl rfl (fun e => by cases e) (new1 rfl) (by simp [Value.oneCell']) (by unfold maxLen; omega) (by omega) ?_; intro b9 cap9 w9 hown hfr; have hX := Mr.hid (hA.out.app rfl hown hfr); clear hown hfr)
        have hX2 := hX.out
        rw [← insAt_end] at hX2
        replace hX := Mr.hid hX2
        clear hX2 hA
        have hw2 : IntKind.i64.wrap ((l.length : Int) + 1 - 1) = (l.length : Int) := by rw [show (l.length : Int) + 1 - 1 = (l.length : Int) from by omega]; exact i64x _ (by omega) (by omega)
        have hw3 : IntKind.i64.wrap (l.length : Int) = (l.length : Int) := i64x _ (by omega) (by omega)
        obtain ⟨m, hm⟩ : ∃ m, m = l.length := ⟨_, rfl⟩
        rw [← hm] at hX hw2 hw3 hll
        rw [← hm]
        replace hm := Mr.hid hm
        go_wp2
        go_loopg [5] m (fun q s5 wr => ∃ k : Nat, s5 = .int .i64 (k : Int) ∧ k = q ∧ k ≤ m ∧ Nw W wr (.slice b9 (m + 1) cap9) (insAt l k (i : Int)) ∧ ∀ y ∈ l.drop k, c.key < ptAt cs y)
        case atStart => exact ⟨m, rfl, rfl, Nat.le_refl _, hX.out, fun y hy => by rw [hm.out, List.drop_length] at hy; simp at hy⟩
        case round =>
          clear hX
          obtain ⟨k, rfl, hk, hkm, hA, hgt⟩ := hrel
          subst hk
          by_cases hk0 : k = 0
          · subst hk0
            have hUp := insAt_up (f := ptAt cs) hL.out (k := 0) (x := (i : Int)) (by rw [hpc.out]; exact hgt) (fun q y h => by omega) (by omega)
            have hPm := (insAt_perm l 0 (i : Int)).trans (List.Perm.append_right _ hP.out)
            rw [← hnx2.out] at hPm
            replace hUp := Mr.hid hUp
            replace hPm := Mr.hid hPm
            replace hA := Mr.hid hA
            replace hgt := Mr.hid hgt
            go_upto_region 8 with (fail)
            go_quiet (fail)
            replace hA := Mr.hid (hA.out.below (Dq.draws' (Below.refl _ _) nq))
            generalize wr.drewN nq = w8 at *
            go_wp2
            go_roundg (n - (i + 1))
            case measure => omega
            case rel => exact ⟨i + 1, _, by simp, by omega, hA.out, hPm.out, hUp.out⟩
          · obtain ⟨q, rfl⟩ : ∃ q, k = q + 1 := ⟨k - 1, by omega⟩
            obtain ⟨y, hy⟩ : ∃ y, l[q]? = some y := ⟨l[q]'(by have := hm.out; omega), List.getElem?_eq_getElem _⟩
            obtain ⟨j, d, hyj, hdj, hji⟩ := pix_call hP.out (List.mem_of_getElem? hy)
            subst hyj
            have hpd : ptAt cs (j : Int) = d.key := ptAt_get hdj
            have x1 := insAt_at (l := l) (k := q + 1) (by have := hm.out; omega) (i : Int)
            have x0 := (insAt_pred (l := l) (k := q) (by have := hm.out; omega) (i : Int)).trans hy
            obtain ⟨gb, ob, cb, cur, e9, _⟩ := hA.own.there (by rw [insAt_len]; omega)
            injection e9 with e91 e92 e93
            subst e91
            clear e92 e93
            obtain ⟨k1, f1, kl⟩ := hA.cell x1
            obtain ⟨k0, f0, -⟩ := hA.cell x0
            obtain ⟨hbd, d0, d1, d2, d3, d4, d5, d6, d7, d8⟩ := RD.out j d hdj _ hA.bel
            obtain ⟨hbl, g0, g1, g2, g3, g4, g5, g6, g7, g8⟩ := RC.out _ hA.bel
            have q1 : (0 : Int) < (q : Int) + 1 := by omega
            have q2 : IntKind.i64.wrap (q : Int) = (q : Int) := i64x _ (by omega) (by omega)
            have q3 : IntKind.i64.wrap ((q : Int) + 1 - 1) = (q : Int) := by rw [show (q : Int) + 1 - 1 = (q : Int) from by omega]; exact q2
            have q4 : (q : Int) < (m : Int) + 1 := by omega
            have q5 : (q : Int) + 1 < (m : Int) + 1 := by omega
            have q5' : (q : Int) < (m : Int) := by omega
            have q6 : (0 : Int) ≤ (q : Int) + 1 := by omega
            have q7 : ((q : Int) + 1).toNat = q + 1 := by omega
            have q8 : (j : Int) < (n : Int) := by omega
            have q9 : (0 : Int) ≤ (q : Int) := by omega
            have hPut : ∀ w, Nw W w (.slice (some ⟨gb, ob, none⟩) (m + 1) cap9) (insAt l (q + 1) (i : Int)) → Nw W ((w.setCell ⟨gb, ob + q, none⟩ (.int .i64 (i : Int))).setCell ⟨gb, ob + (q + 1), none⟩ (.int .i64 (j : Int))) (.slice (some ⟨gb, ob, none⟩) (m + 1) cap9) (insAt l q (i : Int)) := fun w h => by
              have h2 := h.put2 (by rw [insAt_len]; have := hm.out; omega) (j := q) (k := q + 1) (by omega) (by omega) (i : Int) (j : Int)
              rwa [insAt_swap hy (i : Int)] at h2
            have AH : ∀ W', Below wr.heap.size wr W' → Calls Try.prog 27 #[c.val, d.val] W' fun e w' => e = .returned (.bool (decide (c.key < d.key))) ∧ Below wr.heap.size wr w' := fun W' h => (ahead_any c d W').mono (fun e w' ⟨h1, h2⟩ => ⟨h1, h.trans (h2.mono h.size)⟩)
            unfold Cq.val at AH
            have hD : Below wr.heap.size wr wr.drew := (Below.refl _ _).drew
            have hne : ob + q ≠ ob + (q + 1) := by omega
            obtain ⟨wr', hwr⟩ : ∃ x, x = wr := ⟨_, rfl⟩
            replace x1 := Mr.hid x1
            replace x0 := Mr.hid x0
            replace hPut := Mr.hid hPut
            have KK : Hid (∀ w', Below wr.heap.size wr w' → w'.cell? ⟨gb, ob + (q + 1), none⟩ = some (.int .i64 (i : Int)) ∧ w'.cell? ⟨gb, ob + q, none⟩ = some (.int .i64 (j : Int)) ∧ w'.cell? ⟨bc, oc + i * 9, none⟩ = some (.int .i64 c.th) ∧ w'.cell? ⟨bc, oc + i * 9 + 1, none⟩ = some (.int .i64 c.op) ∧ w'.cell? ⟨bc, oc + i * 9 + 2, none⟩ = some (.int .i64 c.arg) ∧ w'.cell? ⟨bc, oc + i * 9 + 3, none⟩ = some (.int .i64 c.data) ∧ w'.cell? ⟨bc, oc + i * 9 + 4, none⟩ = some (.int .i64 c.beg) ∧ w'.cell? ⟨bc, oc + i * 9 + 5, none⟩ = some (.int .i64 c.fin) ∧ w'.cell? ⟨bc, oc + i * 9 + 6, none⟩ = some (.int .i64 c.pt) ∧ w'.cell? ⟨bc, oc + i * 9 + 7, none⟩ = some (.int .i64 c.ak) ∧ w'.cell? ⟨bc, oc + i * 9 + 8, none⟩ = some (.int .i64 c.av) ∧ w'.cell? ⟨bc, oc + j * 9, none⟩ = some (.int .i64 d.th) ∧ w'.cell? ⟨bc, oc + j * 9 + 1, none⟩ = some (.int .i64 d.op) ∧ w'.cell? ⟨bc, oc + j * 9 + 2, none⟩ = some (.int .i64 d.arg) ∧ w'.cell? ⟨bc, oc + j * 9 + 3, none⟩ = some (.int .i64 d.data) ∧ w'.cell? ⟨bc, oc + j * 9 + 4, none⟩ = some (.int .i64 d.beg) ∧ w'.cell? ⟨bc, oc + j * 9 + 5, none⟩ = some (.int .i64 d.fin) ∧ w'.cell? ⟨bc, oc + j * 9 + 6, none⟩ = some (.int .i64 d.pt) ∧ w'.cell? ⟨bc, oc + j * 9 + 7, none⟩ = some (.int .i64 d.ak) ∧ w'.cell? ⟨bc, oc + j * 9 + 8, none⟩ = some (.int .i64 d.av)) := fun w' h => by
              have p := fun b j (hb : b < wr.heap.size) => h.cell (p := ⟨b, j, none⟩) hb
              exact ⟨(p _ _ kl).trans k1, (p _ _ kl).trans k0, (p _ _ hbl).trans g0, (p _ _ hbl).trans g1, (p _ _ hbl).trans g2, (p _ _ hbl).trans g3, (p _ _ hbl).trans g4, (p _ _ hbl).trans g5, (p _ _ hbl).trans g6, (p _ _ hbl).trans g7, (p _ _ hbl).trans g8, (p _ _ hbd).trans d0, (p _ _ hbd).trans d1, (p _ _ hbd).trans d2, (p _ _ hbd).trans d3, (p _ _ hbd).trans d4, (p _ _ hbd).trans d5, (p _ _ hbd).trans d6, (p _ _ hbd).trans d7, (p _ _ hbd).trans d8⟩
            clear hwr wr'
            by_cases hgtd : c.key < d.key
            · have hgt2 : decide (c.key < d.key) = true := decide_eq_true hgtd
              rw [hgt2] at AH
              have hgt3 : ∀ y ∈ l.drop q, c.key < ptAt cs y := fun z hz => by
                rcases drop_at hy hz with rfl | hz
                · rw [hpd]; exact hgtd
                · exact hgt z hz
              replace AH := Mr.hid AH
              replace hgtd := Mr.hid hgtd
              replace hgt3 := Mr.hid hgt3
              replace hgt := Mr.hid hgt
              replace hy := Mr.hid hy
              replace hA := Mr.hid hA
              clear hgt2
              go_upto_region 8 with (fail)
              go_region_held3 (fun w' => w'.cell? ⟨gb, ob + (q + 1), none⟩ = some (.int .i64 (i : Int)) ∧ w'.cell? ⟨gb, ob + q, none⟩ = some (.int .i64 (j : Int)) ∧ w'.cell? ⟨bc, oc + i * 9, none⟩ = some (.int .i64 c.th) ∧ w'.cell? ⟨bc, oc + i * 9 + 1, none⟩ = some (.int .i64 c.op) ∧ w'.cell? ⟨bc, oc + i * 9 + 2, none⟩ = some (.int .i64 c.arg) ∧ w'.cell? ⟨bc, oc + i * 9 + 3, none⟩ = some (.int .i64 c.data) ∧ w'.cell? ⟨bc, oc + i * 9 + 4, none⟩ = some (.int .i64 c.beg) ∧ w'.cell? ⟨bc, oc + i * 9 + 5, none⟩ = some (.int .i64 c.fin) ∧ w'.cell? ⟨bc, oc + i * 9 + 6, none⟩ = some (.int .i64 c.pt) ∧ w'.cell? ⟨bc, oc + i * 9 + 7, none⟩ = some (.int .i64 c.ak) ∧ w'.cell? ⟨bc, oc + i * 9 + 8, none⟩ = some (.int .i64 c.av) ∧ w'.cell? ⟨bc, oc + j * 9, none⟩ = some (.int .i64 d.th) ∧ w'.cell? ⟨bc, oc + j * 9 + 1, none⟩ = some (.int .i64 d.op) ∧ w'.cell? ⟨bc, oc + j * 9 + 2, none⟩ = some (.int .i64 d.arg) ∧ w'.cell? ⟨bc, oc + j * 9 + 3, none⟩ = some (.int .i64 d.data) ∧ w'.cell? ⟨bc, oc + j * 9 + 4, none⟩ = some (.int .i64 d.beg) ∧ w'.cell? ⟨bc, oc + j * 9 + 5, none⟩ = some (.int .i64 d.fin) ∧ w'.cell? ⟨bc, oc + j * 9 + 6, none⟩ = some (.int .i64 d.pt) ∧ w'.cell? ⟨bc, oc + j * 9 + 7, none⟩ = some (.int .i64 d.ak) ∧ w'.cell? ⟨bc, oc + j * 9 + 8, none⟩ = some (.int .i64 d.av)) (first | exact KK.out _ (by assumption) | go_keep) (first | (go_at_call 27; refine (AH.out _ (by assumption)).mono ?_; rintro e w6 ⟨rfl, hB6⟩))
              replace hA := Mr.hid (hA.out.below hB6)
              clear k1 f1 kl k0 f0 g0 g1 g2 g3 g4 g5 g6 g7 g8 d0 d1 d2 d3 d4 d5 d6 d7 d8 hbd hbl KK AH hD
              obtain ⟨k1, f1, kl⟩ := hA.out.cell x1.out
              obtain ⟨k0, f0, -⟩ := hA.out.cell x0.out
              clear hB6
              go_upto_region 10 with (fail)
              go_region
              have hA10 := Mr.hid ((hPut.out _ hA.out).below ((Below.refl _ _).drew))
              clear k1 f1 kl k0 f0 hA
              generalize World.drew _ = w10 at *
              go_wp2
              go_roundg q
              case measure => omega
              case rel => exact ⟨q, by simp, rfl, by omega, hA10.out, hgt3.out⟩
            · have hgt2 : decide (c.key < d.key) = false := decide_eq_false hgtd
              rw [hgt2] at AH
              have hUp := insAt_up (f := ptAt cs) hL.out (k := q + 1) (x := (i : Int)) (by rw [hpc.out]; exact hgt) (fun q' y' h h2 => by
                have : q' = q := by omega
                subst this
                rw [hy] at h2; cases h2
                rw [hpd, hpc.out]; omega) (by have := hm.out; omega)
              have hPm := (insAt_perm l (q + 1) (i : Int)).trans (List.Perm.append_right _ hP.out)
              rw [← hnx2.out] at hPm
              replace hUp := Mr.hid hUp
              replace hPm := Mr.hid hPm
              replace AH := Mr.hid AH
              replace hgtd := Mr.hid hgtd
              replace hgt := Mr.hid hgt
              replace hy := Mr.hid hy
              replace hA := Mr.hid hA
              clear hgt2
              go_upto_region 8 with (fail)
              go_region_held3 (fun w' => w'.cell? ⟨gb, ob + (q + 1), none⟩ = some (.int .i64 (i : Int)) ∧ w'.cell? ⟨gb, ob + q, none⟩ = some (.int .i64 (j : Int)) ∧ w'.cell? ⟨bc, oc + i * 9, none⟩ = some (.int .i64 c.th) ∧ w'.cell? ⟨bc, oc + i * 9 + 1, none⟩ = some (.int .i64 c.op) ∧ w'.cell? ⟨bc, oc + i * 9 + 2, none⟩ = some (.int .i64 c.arg) ∧ w'.cell? ⟨bc, oc + i * 9 + 3, none⟩ = some (.int .i64 c.data) ∧ w'.cell? ⟨bc, oc + i * 9 + 4, none⟩ = some (.int .i64 c.beg) ∧ w'.cell? ⟨bc, oc + i * 9 + 5, none⟩ = some (.int .i64 c.fin) ∧ w'.cell? ⟨bc, oc + i * 9 + 6, none⟩ = some (.int .i64 c.pt) ∧ w'.cell? ⟨bc, oc + i * 9 + 7, none⟩ = some (.int .i64 c.ak) ∧ w'.cell? ⟨bc, oc + i * 9 + 8, none⟩ = some (.int .i64 c.av) ∧ w'.cell? ⟨bc, oc + j * 9, none⟩ = some (.int .i64 d.th) ∧ w'.cell? ⟨bc, oc + j * 9 + 1, none⟩ = some (.int .i64 d.op) ∧ w'.cell? ⟨bc, oc + j * 9 + 2, none⟩ = some (.int .i64 d.arg) ∧ w'.cell? ⟨bc, oc + j * 9 + 3, none⟩ = some (.int .i64 d.data) ∧ w'.cell? ⟨bc, oc + j * 9 + 4, none⟩ = some (.int .i64 d.beg) ∧ w'.cell? ⟨bc, oc + j * 9 + 5, none⟩ = some (.int .i64 d.fin) ∧ w'.cell? ⟨bc, oc + j * 9 + 6, none⟩ = some (.int .i64 d.pt) ∧ w'.cell? ⟨bc, oc + j * 9 + 7, none⟩ = some (.int .i64 d.ak) ∧ w'.cell? ⟨bc, oc + j * 9 + 8, none⟩ = some (.int .i64 d.av)) (first | exact KK.out _ (by assumption) | go_keep) (first | (go_at_call 27; refine (AH.out _ (by assumption)).mono ?_; rintro e w6 ⟨rfl, hB6⟩))
              replace hA := Mr.hid (hA.out.below hB6)
              clear k1 f1 kl k0 f0 g0 g1 g2 g3 g4 g5 g6 g7 g8 d0 d1 d2 d3 d4 d5 d6 d7 d8 hbd hbl KK AH hD hB6
              go_wp2
              go_roundg (n - (i + 1))
              case measure => omega
              case rel => exact ⟨i + 1, _, by simp, by omega, hA.out, hPm.out, hUp.out⟩
      · have hpt : c.pt = -1 := Classical.byContradiction (fun h => hct h)
        have hnx2 := Mr.hid (show l.Perm (pix (cs.take (i + 1)) 0) by rw [hnx.out, if_neg hct, List.append_nil]; exact hP.out)
        have hct2 : (c.pt == -1) = true := by simp [hpt]
        replace hct := Mr.hid hct
        replace hpt := Mr.hid hpt
        go_wp2
        go_roundg (gk - 1)
        case measure => omega
        case rel => exact ⟨i + 1, l, by simp, by omega, hA.out, hnx2.out, hL.out⟩
    · have hin : i = cs.length := by have := hn.out; omega
      rw [hin, List.take_length] at hP
      have dl : decide ((i : Int) < (n : Int)) = false := decide_eq_false (by omega)
      replace hP := Mr.hid hP
      replace hL := Mr.hid hL
      obtain ⟨u, cu, rfl, hcu, hcm⟩ := hA.own.form
      replace hA := Mr.hid hA
      go_wp2
      go_ret
      exact ⟨_, l, rfl, hA.out, hP.out, hL.out⟩
end Go.Proofs.Ytaojggnflblgnaa.Hd
