import Derived.Test.YtfgnaffomglmdaaGreatJ12
import Derived.Test.YtfgnaffomglmdaaGreatShelf
import Derived.Deep.LoopGhost
/-
  slices.Sort of numbers, onto a row of one's own.
-/
namespace Go.Proofs.YtfgnaffomglmdaaGreat.Wt
open Go.RowKit Mr Md
set_option linter.unusedVariables false
def srt (zs : List Int) : List Int := zs.mergeSort fun x y => decide (x ≤ y)
theorem srt_perm (zs : List Int) : (srt zs).Perm zs := List.mergeSort_perm _ _
theorem srt_len (zs : List Int) : (srt zs).length = zs.length := (srt_perm zs).length_eq
theorem srt_up (zs : List Int) : (srt zs).Pairwise (· ≤ ·) := by
  have := List.pairwise_mergeSort (le := fun x y : Int => decide (x ≤ y)) (fun a b c h1 h2 => by simp at *; omega) (fun a b => by simp; omega) zs
  exact this.imp (fun h => of_decide_eq_true h)
theorem holds_at {W : World} {g o : Nat} {cur : Array Value} {e : TypeId} {zs : List Int} (hg : W.heap[g]? = some (.cells cur e (0, 0))) (hx : (cur.toList.drop o).take (zs.length * 1) = ints zs) : Sort.Holds (Value.int .i64) W g o zs.toArray := by
  intro j hj
  have hj' : j < zs.length := by simpa using hj
  refine ⟨?_, by simp [World.frozen?, hg]⟩
  have := own_cells hg hx j _ (ints_get zs j hj')
  rw [this]
  simp [hj']
theorem sort_any {W : World} {S : Nat → Prop} {u : Value} {zs : List Int} (hu : Own W S 3 1 u zs.length (ints zs)) (hsz : zs.length < 4611686018427387904) :
    Calls Tryz.prog 46 #[u] W fun e w' => e = .returned (.tuple #[]) ∧ Fr W w' S ∧ Sl w' S 1 u zs.length (ints (srt zs)) := by
  by_cases h0 : zs.length = 0
  · obtain ⟨a, cap, rfl, hc, _⟩ := hu.form
    have hz : zs = [] := List.eq_nil_of_length_eq_zero h0
    subst hz
    refine (Tryz.slices_Sort_int_none a cap W).mono ?_
    rintro e w' ⟨rfl, rfl⟩
    exact ⟨rfl, Fr.refl _ _, by simpa [srt] using hu.sl⟩
  · obtain ⟨g, o, cap, cur, rfl, hc, hm, hS, hg, hs, hx⟩ := hu.there (by omega)
    have hH := holds_at hg hx
    have hl := (Array.getElem?_eq_some_iff.1 hg).1
    refine (Tryz.slices_Sort_int g o cap zs W hH hl hsz).mono ?_
    rintro e w' ⟨rfl, n, os, rfl⟩
    refine ⟨rfl, ⟨rfl, rfl, rfl, by simp, fun k hk hne => ?_⟩, by simp [ints, srt_len], _, cap, rfl, hc, .inr ⟨g, o, rfl, hS, by simp; omega, fun j u hu => ?_⟩⟩
    · rw [Sort.heap_grow_old _ _ (by simpa using hk)]
      have : g ≠ k := fun e => hne (by rw [← e]; exact hS)
      simp [Sort.putRow, Sort.mapBlock, Sort.ahead, Array.getElem?_modify, this]
    · have hj : j < (srt zs).length := by simpa [ints] using (List.getElem?_eq_some_iff.1 hu).1
      rw [Sort.cell?_grow _ _ _ (by simpa using hl)]
      have hsz2 : (srt zs).toArray.size = zs.toArray.size := by simp [srt_len]
      have := Sort.cell?_putRow (Value.int .i64) (Sort.ahead W n) g o zs.toArray (srt zs).toArray hH hsz2 j (by simpa using hj)
      unfold srt at this
      rw [this]
      simp [ints, srt] at hu
      obtain ⟨a, h1, h2⟩ := hu
      rw [← h2]
      simp [srt] at hj
      simp [h1]
end Go.Proofs.YtfgnaffomglmdaaGreat.Wt
/-
  WITNESS: apart.
-/
namespace Go.Proofs.YtfgnaffomglmdaaGreat.Wt
open Go.RowKit Mr Md
set_option linter.unusedVariables false
set_option linter.unusedSimpArgs false
set_option maxRecDepth 100000
set_option maxHeartbeats 8000000 in
theorem apart_any {W : World} {T : Nat → Prop} {v : Value} {cs : List Cq} (hv : Sl W T 9 v cs.length (cqs cs)) (hsm : cs.length * 72 ≤ 281474976710656) (b : Bool) (hb : b = true ↔ (mvl cs).Nodup) :
    Calls Tryz.prog 30 #[v] W fun e w' => e = .returned (.bool b) ∧ Below W.heap.size W w' := by
  obtain ⟨a, cap, rfl, hcap⟩ := hv.form
  obtain ⟨i0, hi0, hz0, hz1, hz2⟩ := parts_of wt_int
  obtain ⟨n, hn⟩ : ∃ n, n = cs.length := ⟨_, rfl⟩
  have hv' := hv
  rw [← hn] at hv hsm hcap ⊢
  rw [hn] at hv
  replace hn := Mr.hid hn
  replace hv := Mr.hid hv
  replace hb := Mr.hid hb
  clear hv'
  go_enter Tryz.func30, Tryz.ntmps30
  go_wp2
  go_loopg [3, 9] n (fun k s3 s9 wr => ∃ i : Nat, s9 = .int .i64 (i : Int) ∧ i + k = n ∧ Below W.heap.size W wr ∧ Own wr (fun k => W.heap.size ≤ k) 3 1 s3 (mvl (cs.take i)).length (ints (mvl (cs.take i))))
  case atStart => exact ⟨0, rfl, by omega, Below.refl _ _, Own.zero _ _ _ _ _⟩
  case round =>
    obtain ⟨i, rfl, hi, B, ho⟩ := hrel
    by_cases hlt : i < n
    · obtain ⟨c, hci⟩ := get_of_lt (cs := cs) (i := i) (by have := hn.out; omega)
      obtain ⟨bc, oc, rfl, A9⟩ := call_at (hv.out.below B) hci
      obtain ⟨u, cu, rfl, hcu, hcm⟩ := ho.form
      obtain ⟨l, hl⟩ : ∃ l, l = mvl (cs.take i) := ⟨_, rfl⟩
      rw [← hl] at ho hcu ⊢
      have AF := fun w1 => Ap.first (w1 := w1) B ho c
      have hll : l.length ≤ 3 * i := by rw [hl]; exact Nat.le_trans (mvl_len _) (by simp; omega)
      have hnx := mvl_take cs i c hci
      rw [← hl] at hnx
      obtain ⟨hbl, g0, g1, g2, g3, g4, g5, g6, g7, g8⟩ := A9
      have hlI : (i : Int) < (n : Int) := by omega
      have ED := fun w => ended_any c w
      unfold Cq.val at ED
      clear ho hl
      replace AF := Mr.hid AF
      replace hnx := Mr.hid hnx
      replace hci := Mr.hid hci
      replace B := Mr.hid B
      replace ED := Mr.hid ED
      go_upto_region 5 with (fail)
      have hA := AF.out _ rfl
      unfold cqO at hA
      clear AF g0 g1 g2 g3 g4 g5 g6 g7 g8 hbl B
      generalize (wr.alloc (Obj.cells #[.int .i64 c.th, .int .i64 c.op, .int .i64 c.arg, .int .i64 c.data, .int .i64 c.beg, .int .i64 c.fin, .int .i64 c.pt, .int .i64 c.ak, .int .i64 c.av] 36 (0, 0))) = w5 at *
      generalize wr.heap.size = bx at *
      clear wr
      replace hA := Mr.hid hA
      obtain ⟨k0, k1, k2, k3, k4, k5, k6, k7, k8, kl⟩ := cq_cells hA.out.box
      go_upto_region 6 with (at_builtin; refine wpList_append_mine _ rfl (.tmp 13) (.tmp 16) 23 rfl (fun k => W.heap.size ≤ k ∧ k ≠ bx) 3 i0 _ 1 8 Tryz.underlying23 hi0 hz0 hz1 hz2 rfl _ (l).length (ints (l)) rfl (hA.out.own.below ((Below.refl _ _).alloc (Nat.le_refl _) _)) (some ⟨w5.heap.size, 0, none⟩) 1 1 [.int .i64 c.beg] rfl rfl (fun e => by cases e) (new1 rfl) (by simp [Value.oneCell']) (by unfold maxLen; omega) (by omega) ?_; intro b5 cap5 w6 hown hfr; have hX := hA.out.app rfl hown hfr; clear hown hfr; replace hX := Mr.hid hX)
      clear k0 k1 k2 k3 k4 k5 k6 k7 k8 kl
      replace hA := hX.out
      clear hX
      obtain ⟨l1, hl1⟩ : ∃ l1, l1 = l ++ [c.beg] := ⟨_, rfl⟩
      have ql1 : l.length + 1 = l1.length := by rw [hl1]; simp
      rw [← hl1, ql1] at hA
      rw [ql1]
      replace ql1 : l1.length ≤ 3 * i + 1 := by omega
      replace hl1 := Mr.hid hl1
      replace hA := Mr.hid hA
      obtain ⟨k0, k1, k2, k3, k4, k5, k6, k7, k8, kl⟩ := cq_cells hA.out.box
      by_cases e1 : c.fin = -1
      · have hE : endB c = false := by simp [endB, e1]
        replace e1 := Mr.hid e1
        replace ED := ED.out
        rw [hE] at ED
        replace ED := Mr.hid ED
        go_upto_region 8 with (go_at_call 34; refine (ED.out _).mono ?_; clear ED; rintro e w7 ⟨rfl, hB7⟩; clear k0 k1 k2 k3 k4 k5 k6 k7 k8 kl; replace hA := Mr.hid (hA.out.below hB7); clear hB7; obtain ⟨k0, k1, k2, k3, k4, k5, k6, k7, k8, kl⟩ := cq_cells hA.out.box)
        by_cases e2 : c.pt = -1
        · have e2' : (c.pt != -1) = false := by simp [e2]
          have e3 := Mr.hid trivial
          replace e2 := Mr.hid e2
          have hfin : Hid (mvl (cs.take (i + 1)) = l1) := by show mvl (cs.take (i + 1)) = l1; rw [hnx.out, hl1.out]; simp [mvc, e1.out, e2.out, e3.out]
          go_wp2
          go_roundg (gk - 1)
          case measure => omega
          case rel => exact ⟨i + 1, by simp, by omega, hA.out.bel, by rw [hfin.out]; exact hA.out.done⟩
        · have e2' : (c.pt != -1) = true := by simp [e2]
          replace e2 := Mr.hid e2
          by_cases e3 : c.pt = c.fin
          · exact absurd (e3.trans e1.out) e2.out
          · have e3' : (c.pt != c.fin) = true := by simp [e3]
            replace e3 := Mr.hid e3
            have hfin : Hid (mvl (cs.take (i + 1)) = l1 ++ [c.pt]) := by show mvl (cs.take (i + 1)) = l1 ++ [c.pt]; rw [hnx.out, hl1.out]; simp [mvc, e1.out, e2.out, e3.out]
            go_wp2_with (at_builtin; refine wpList_append_mine _ rfl (.tmp 35) (.tmp 38) 23 rfl (fun k => W.heap.size ≤ k ∧ k ≠ bx) 3 i0 _ 1 8 Tryz.underlying23 hi0 hz0 hz1 hz2 rfl _ (l1).length (ints (l1)) rfl (hA.out.own.below ((Below.refl _ _).alloc (Nat.le_refl _) _)) (some ⟨w7.heap.size, 0, none⟩) 1 1 [.int .i64 c.pt] rfl rfl (fun e => by cases e) (new1 rfl) (by simp [Value.oneCell']) (by unfold maxLen; omega) (by omega) ?_; intro b9 cap9 w9 hown hfr; have hX := hA.out.app rfl hown hfr; clear hown hfr; replace hX := Mr.hid hX)
            go_roundg (gk - 1)
            case measure => omega
            case rel => exact ⟨i + 1, by simp, by omega, hX.out.bel, by rw [hfin.out]; exact hX.out.done⟩
      · have hE : endB c = true := by simp [endB, e1]
        replace e1 := Mr.hid e1
        replace ED := ED.out
        rw [hE] at ED
        replace ED := Mr.hid ED
        go_upto_region 7 with (go_at_call 34; refine (ED.out _).mono ?_; clear ED; rintro e w7 ⟨rfl, hB7⟩; clear k0 k1 k2 k3 k4 k5 k6 k7 k8 kl; replace hA := Mr.hid (hA.out.below hB7); clear hB7; obtain ⟨k0, k1, k2, k3, k4, k5, k6, k7, k8, kl⟩ := cq_cells hA.out.box)
        go_upto_region 8 with (at_builtin; refine wpList_append_mine _ rfl (.tmp 20) (.tmp 23) 23 rfl (fun k => W.heap.size ≤ k ∧ k ≠ bx) 3 i0 _ 1 8 Tryz.underlying23 hi0 hz0 hz1 hz2 rfl _ (l1).length (ints (l1)) rfl (hA.out.own.below ((Below.refl _ _).alloc (Nat.le_refl _) _)) (some ⟨w7.heap.size, 0, none⟩) 1 1 [.int .i64 c.fin] rfl rfl (fun e => by cases e) (new1 rfl) (by simp [Value.oneCell']) (by unfold maxLen; omega) (by omega) ?_; intro b7 cap7 w8 hown hfr; have hX := hA.out.app rfl hown hfr; clear hown hfr; replace hX := Mr.hid hX)
        clear k0 k1 k2 k3 k4 k5 k6 k7 k8 kl
        replace hA := hX.out
        clear hX
        obtain ⟨l2, hl2⟩ : ∃ l2, l2 = l1 ++ [c.fin] := ⟨_, rfl⟩
        have ql2 : l1.length + 1 = l2.length := by rw [hl2]; simp
        rw [← hl2, ql2] at hA
        rw [ql2]
        replace ql2 : l2.length ≤ 3 * i + 2 := by omega
        replace hl2 := Mr.hid hl2
        replace hA := Mr.hid hA
        obtain ⟨k0, k1, k2, k3, k4, k5, k6, k7, k8, kl⟩ := cq_cells hA.out.box
        by_cases e2 : c.pt = -1
        · have e2' : (c.pt != -1) = false := by simp [e2]
          have e3 := Mr.hid trivial
          replace e2 := Mr.hid e2
          have hfin : Hid (mvl (cs.take (i + 1)) = l2) := by show mvl (cs.take (i + 1)) = l2; rw [hnx.out, hl2.out, hl1.out]; simp [mvc, e1.out, e2.out, e3.out]
          go_wp2
          go_roundg (gk - 1)
          case measure => omega
          case rel => exact ⟨i + 1, by simp, by omega, hA.out.bel, by rw [hfin.out]; exact hA.out.done⟩
        · have e2' : (c.pt != -1) = true := by simp [e2]
          replace e2 := Mr.hid e2
          by_cases e3 : c.pt = c.fin
          · have e3' : (c.pt != c.fin) = false := by simp [e3]
            replace e3 := Mr.hid e3
            have hfin : Hid (mvl (cs.take (i + 1)) = l2) := by show mvl (cs.take (i + 1)) = l2; rw [hnx.out, hl2.out, hl1.out]; simp [mvc, e1.out, e2.out, e3.out]
            go_wp2
            go_roundg (gk - 1)
            case measure => omega
            case rel => exact ⟨i + 1, by simp, by omega, hA.out.bel, by rw [hfin.out]; exact hA.out.done⟩
          · have e3' : (c.pt != c.fin) = true := by simp [e3]
            replace e3 := Mr.hid e3
            have hfin : Hid (mvl (cs.take (i + 1)) = l2 ++ [c.pt]) := by show mvl (cs.take (i + 1)) = l2 ++ [c.pt]; rw [hnx.out, hl2.out, hl1.out]; simp [mvc, e1.out, e2.out, e3.out]
            go_wp2_with (at_builtin; refine wpList_append_mine _ rfl (.tmp 35) (.tmp 38) 23 rfl (fun k => W.heap.size ≤ k ∧ k ≠ bx) 3 i0 _ 1 8 Tryz.underlying23 hi0 hz0 hz1 hz2 rfl _ (l2).length (ints (l2)) rfl (hA.out.own.below ((Below.refl _ _).alloc (Nat.le_refl _) _)) (some ⟨w8.heap.size, 0, none⟩) 1 1 [.int .i64 c.pt] rfl rfl (fun e => by cases e) (new1 rfl) (by simp [Value.oneCell']) (by unfold maxLen; omega) (by omega) ?_; intro b9 cap9 w9 hown hfr; have hX := hA.out.app rfl hown hfr; clear hown hfr; replace hX := Mr.hid hX)
            go_roundg (gk - 1)
            case measure => omega
            case rel => exact ⟨i + 1, by simp, by omega, hX.out.bel, by rw [hfin.out]; exact hX.out.done⟩
    · have hin : i = cs.length := by have := hn.out; omega
      rw [hin, List.take_length] at ho
      obtain ⟨l, hl⟩ : ∃ l, l = mvl cs := ⟨_, rfl⟩
      rw [← hl] at ho
      have hb2 : b = true ↔ ∀ i x y, (srt l)[i]? = some x → (srt l)[i + 1]? = some y → y ≠ x := by rw [hb.out, ← hl, ← (srt_perm l).nodup_iff]; exact sorted_nodup (srt_up l)
      have hll : l.length ≤ 3 * n := by rw [hl, hn.out]; exact mvl_len _
      have SO := sort_any ho (by omega)
      obtain ⟨u, cu, rfl, hcu, hcm⟩ := ho.form
      have hsl := srt_len l
      obtain ⟨s, hs⟩ : ∃ s, s = srt l := ⟨_, rfl⟩
      rw [← hs] at hb2 SO hsl
      obtain ⟨m, hm⟩ : ∃ m, m = l.length := ⟨_, rfl⟩
      rw [← hm] at SO hcu hsl hll ⊢
      clear hb ho hl hs hin hm
      have dl : decide ((i : Int) < (n : Int)) = false := decide_eq_false (by omega)
      replace SO := Mr.hid SO
      replace hb2 := Mr.hid hb2
      replace B := Mr.hid B
      replace hsl := Mr.hid hsl
      go_wp2_with (go_at_call 46; refine SO.out.mono ?_; clear SO; rintro e w2 ⟨rfl, hf2, hS2⟩; have hB2 : Below W.heap.size W w2 := ⟨hf2.os.trans B.out.os, hf2.tape.trans B.out.tape, hf2.output.trans B.out.output, Nat.le_trans B.out.size hf2.size, fun k hk => (hf2.block k (Nat.lt_of_lt_of_le hk B.out.size) (by omega)).trans (B.out.block k hk)⟩; clear hf2 B; replace hB2 := Mr.hid hB2; replace hS2 := Mr.hid hS2)
      go_loopg [6] m (fun k s6 wr => ∃ i : Nat, s6 = .int .i64 ((i : Int) + 1) ∧ i + k = m ∧ Below W.heap.size W wr ∧ Below w2.heap.size w2 wr ∧ ∀ j x y, j < i → s[j]? = some x → s[j + 1]? = some y → y ≠ x)
      case atStart => exact ⟨0, rfl, by omega, hB2.out, Below.refl _ _, fun j x y hj => by omega⟩
      case round =>
        obtain ⟨i, rfl, hi, B, B2, ht⟩ := hrel
        by_cases hlt : i + 1 < m
        · obtain ⟨gu, ou, cu', hgu, _, _, hul, ru⟩ := (hS2.out.below B2).there (by omega)
          cases hgu
          have hx1 : s[i + 1]? = some (s[i + 1]'(by have := hsl.out; omega)) := List.getElem?_eq_getElem _
          have hx0 : s[i]? = some (s[i]'(by have := hsl.out; omega)) := List.getElem?_eq_getElem _
          obtain ⟨y1, hy1⟩ : ∃ y, y = s[i + 1]'(by have := hsl.out; omega) := ⟨_, rfl⟩
          obtain ⟨y0, hy0⟩ : ∃ y, y = s[i]'(by have := hsl.out; omega) := ⟨_, rfl⟩
          rw [← hy1] at hx1
          rw [← hy0] at hx0
          clear hy0 hy1
          have k1 := ru (i + 1) _ (by rw [ints, List.getElem?_map, hx1]; rfl)
          have k0 := ru i _ (by rw [ints, List.getElem?_map, hx0]; rfl)
          have hli : ((i : Int) + 1) < (m : Int) := by omega
          have ewr : IntKind.i64.wrap ((i : Int) + 1 - 1) = (i : Int) := by rw [show (i : Int) + 1 - 1 = (i : Int) from by omega]; exact i64x _ (by omega) (by omega)
          have e1 : ((i : Int) + 1).toNat = i + 1 := by omega
          clear ru
          replace B := Mr.hid B
          replace B2 := Mr.hid B2
          replace ht := Mr.hid ht
          replace hx1 := Mr.hid hx1
          replace hx0 := Mr.hid hx0
          go_upto_region 15 with (fail)
          go_quiet (fail)
          have hBq := Bx.draws W.heap.size wr nq
          have hBq2 := Bx.draws w2.heap.size wr nq
          have hB := Mr.hid (B.out.trans hBq)
          have hC2 := Mr.hid (B2.out.trans hBq2)
          clear hBq hBq2 k1 k0 hul B B2
          generalize wr.drewN nq = W6 at *
          by_cases he : y1 = y0
          · have hbf : b = false := by
              cases hbb : b with
              | false => rfl
              | true => exact absurd he (hb2.out.1 hbb i y0 y1 hx0.out hx1.out)
            have he2 : (y1 == y0) = true := by simp [he]
            subst hbf
            go_wp2
            go_ret
            exact ⟨rfl, hB.out⟩
          · have he2 : (y1 == y0) = false := by simp [he]
            go_wp2
            go_roundg (gk - 1)
            case measure => omega
            case rel => exact ⟨i + 1, by simp, by omega, hB.out, hC2.out, fun j x y hj hx hy => by
              by_cases hji : j < i
              · exact ht.out j x y hji hx hy
              · have : j = i := by omega
                subst this
                rw [hx0.out] at hx; rw [hx1.out] at hy; cases hx; cases hy; exact he⟩
        · have hbt : b = true := hb2.out.2 (fun j x y hx hy => ht j x y (by have := (List.getElem?_eq_some_iff.1 hy).1; have := hsl.out; omega) hx hy)
          subst hbt
          have dl2 : decide (((i : Int) + 1) < (m : Int)) = false := decide_eq_false (by omega)
          replace B := Mr.hid B
          clear ht
          go_wp2
          go_ret
          exact ⟨rfl, B.out⟩
end Go.Proofs.YtfgnaffomglmdaaGreat.Wt
