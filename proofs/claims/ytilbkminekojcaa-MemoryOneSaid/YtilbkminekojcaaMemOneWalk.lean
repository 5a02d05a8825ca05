/-
  THE LAW MemoryOne.
-/
import Derived.Test.YtilbkminekojcaaMemOneP
import Derived.BigQuiet
import Derived.Deep.RegionHeld3
namespace Go.Proofs.Ytilbkminekojcaa.Me
open Go.RowKit Mr
set_option linter.unusedVariables false
/-- What stands behind an access: the memory, the op's box, the words ahead and behind. -/
structure On (w W : World) (S : Nat → Prop) (b : Nat) (s : St) (mv : Int) (bm : Nat) (ob : Obj) (v8 v10 : Value) (n : Nat) (l8 l10 : List Int) : Prop where
  m : MemS W S b s mv
  u : ∀ k, S k → w.heap.size ≤ k ∧ k < W.heap.size
  bel : Below w.heap.size w W
  h8 : Has W (fun k => bm < k) 31 1 v8 n (wrd l8)
  h10 : Has W (fun k => bm < k) 31 1 v10 n (wrd l10)
  box : W.heap[bm]? = some ob
  lo : w.heap.size ≤ bm
theorem On.below {w W W' : World} {S : Nat → Prop} {b : Nat} {s : St} {mv : Int} {bm : Nat} {ob : Obj} {v8 v10 : Value} {n : Nat} {l8 l10 : List Int} (h : On w W S b s mv bm ob v8 v10 n l8 l10) (hB : Below W.heap.size W W') : On w W' S b s mv bm ob v8 v10 n l8 l10 :=
  ⟨h.m.below hB, fun k hk => ⟨(h.u k hk).1, Nat.lt_of_lt_of_le (h.u k hk).2 hB.size⟩, h.bel.trans (hB.mono h.bel.size), h.h8.below hB, h.h10.below hB, (hB.block _ (Array.getElem?_eq_some_iff.1 h.box).1).trans h.box, h.lo⟩
theorem belowN (W : World) (m : Nat) : Below W.heap.size W (W.drewN m) := ⟨rfl, rfl, rfl, Nat.le_refl _, fun _ _ => rfl⟩
theorem MemS.narrow {W : World} {S : Nat → Prop} {b : Nat} {s : St} {mv : Int} (h : MemS W S b s mv) : MemS W (fun k => S k ∧ k < W.heap.size) b s mv := by
  obtain ⟨vw, vl, va, h⟩ := h; exact ⟨vw, vl, va, h.narrow⟩
theorem now_s {W : World} {S : Nat → Prop} {b : Nat} {s : St} {mv : Int} (h : MemS W S b s mv) (x : Int) : Calls Try.prog 16 #[.pointer (some ⟨b, 0, none⟩), .int .i64 x] W fun e w' => e = .returned (.tuple #[]) ∧ MemS w' S b s x ∧ Fr W w' S := by
  obtain ⟨vw, vl, va, h⟩ := h
  refine (now_any h x).mono ?_
  rintro e w' ⟨h1, h2, h3⟩
  exact ⟨h1, ⟨vw, vl, va, h2⟩, h3⟩
theorem words_s {W : World} {S : Nat → Prop} {b : Nat} {s : St} {mv : Int} (h : MemS W S b s mv) : Calls Try.prog 15 #[.pointer (some ⟨b, 0, none⟩)] W fun e w' => ∃ v, e = .returned v ∧ Has w' (fun k => W.heap.size ≤ k) 31 1 v s.ws.length (wrd s.ws) ∧ Below W.heap.size W w' := by
  obtain ⟨vw, vl, va, h⟩ := h
  exact words_any h
theorem count_s {W : World} {S : Nat → Prop} {b : Nat} {s : St} {mv : Int} (h : MemS W S b s mv) : Calls Try.prog 12 #[.pointer (some ⟨b, 0, none⟩)] W fun e w' => e = .returned (.int .i64 (s.lg.length : Int)) ∧ w' = W := by
  obtain ⟨vw, vl, va, h⟩ := h
  exact count_any h
/-- From the round's beginning to the second Words. -/
theorem one_after {w wr w2 w3 w4 w5 : World} {S : Nat → Prop} {b : Nat} {s : St} {ob : Obj} {v8 v10 : Value} {o : O} {n : Nat} (hu : ∀ k, S k → w.heap.size ≤ k ∧ k < wr.heap.size) (hB : Below w.heap.size w wr)
    (h8 : Has w2 (fun k => (wr.alloc ob).heap.size ≤ k) 31 1 v8 s.ws.length (wrd s.ws)) (hB2 : Below (wr.alloc ob).heap.size (wr.alloc ob) w2) (f3 : Fr w2 w3 S) (m4 : MemS w4 (fun k => S k ∨ w3.heap.size ≤ k) b (stp o o.n s) o.n) (f4 : Fr w3 w4 S)
    (h10 : Has w5 (fun k => w4.heap.size ≤ k) 31 1 v10 (stp o o.n s).ws.length (wrd (stp o o.n s).ws)) (hB5 : Below w4.heap.size w4 w5) (hn : s.ws.length = n) :
    On w w5 (fun k => (S k ∨ w3.heap.size ≤ k) ∧ k < w4.heap.size) b (stp o o.n s) o.n wr.heap.size ob v8 v10 n s.ws (stp o o.n s).ws := by
  have s1 : (wr.alloc ob).heap.size = wr.heap.size + 1 := by simp
  have s2 := hB2.size
  have s3 := f3.size
  have s4 := f4.size
  have s5 := hB5.size
  have s0 := hB.size
  have hl := stp_len o o.n s
  have nS : ∀ k, wr.heap.size ≤ k → ¬ S k := fun k hk h => by have := (hu k h).2; omega
  refine ⟨m4.narrow.below hB5, fun k hk => ⟨?_, by omega⟩, ?_, ?_, ?_, ?_, s0⟩
  · rcases hk.1 with h | h
    · exact (hu k h).1
    · omega
  · exact ((((hB.alloc s0 ob).trans (hB2.mono (by omega))).trans (f3.below (fun k hk => (hu k hk).1) (by omega))).trans (f4.below (fun k hk => (hu k hk).1) (by omega))).trans (hB5.mono (by omega))
  · have e1 := h8.fr f3 (fun k hk _ => nS k (by omega))
    have e2 := e1.fr f4 (fun k hk _ => nS k (by omega))
    have e3 := e2.below hB5
    rw [hn] at e3
    exact e3.mono (fun k hk => by omega)
  · rw [hl, hn] at h10
    exact h10.mono (fun k hk => by omega)
  · rw [hB5.block _ (by omega), f4.block _ (by omega) (nS _ (Nat.le_refl _)), f3.block _ (by omega) (nS _ (Nat.le_refl _)), hB2.block _ (by omega)]
    exact heap_alloc_new wr ob
set_option maxHeartbeats 40000000 in
set_option maxRecDepth 100000 in
theorem law_one (a : Option Addr) (n cap : Nat) (ws : List Int) (ao : Option Addr) (no co : Nat) (os : List O) (w : World) (hs : Src w a n cap ws) (ho : OpsAt w ao no os) (hr : (os.length + os.length / 4 + 192) * 56 ≤ 281474976710656) :
    Calls Try.prog 4 #[.slice a n cap, .slice ao no co] w fun e w' => e = .returned (.bool true) ∧ Below w.heap.size w w' := by
  have hno : os.length ≤ 5026338869641 := by omega
  replace hr := Mr.hid hr
  by_cases hbig : 8192 < n
  · have hd : decide (8192 < (n : Int)) = true := by simp; omega
    go_enter Try.func4, Try.ntmps4
    go_wp2_with (go_at_call 7; refine (awake_any _).mono ?_; rintro e w1 ⟨rfl, hB1⟩)
    go_ret
    exact ⟨rfl, hB1⟩
  have hd : decide (8192 < (n : Int)) = false := by simp; omega
  have hwn := hs.1
  subst hwn
  have C := made_any _ _ _ _ _ hs (by omega)
  obtain ⟨hnl, ho'⟩ := id ho
  subst hnl
  go_enter Try.func4, Try.ntmps4
  go_wp2_with (go_at_call 8; refine C.mono ?_; clear C; rintro e w1 ⟨b, rfl, hM, hB1⟩)
  go_loopg [6] os.length (fun k s wr => ∃ (i : Nat) (S : Nat → Prop) (mv : Int), s = .int .i64 (i : Int) ∧ i + k = os.length ∧ MemS wr S b (runs1 ws (os.take i)) mv ∧ (∀ k, S k → w.heap.size ≤ k ∧ k < wr.heap.size) ∧ Below w.heap.size w wr)
  case atStart => exact ⟨0, _, 0, rfl, by omega, hM.narrow, fun k hk => hk, hB1⟩
  case round =>
    obtain ⟨i, S, mv, rfl, hi, hMi, hu, B⟩ := hrel
    obtain ⟨gk1, hgk1⟩ : ∃ gk1, gk1 = gk := ⟨_, rfl⟩
    clear hM hB1
    by_cases hlt : i < os.length
    · rcases (ho.below B).2 with h0 | ⟨bo, oo, rfl, hbo, hc⟩
      · rw [h0] at hlt; simp at hlt
      obtain ⟨c0, c1, c2, c3, c4, c5⟩ := hc i hlt
      have hsn := runs1_snoc ws os i hlt
      have hroomy := runs1_roomy ws os i hlt hr.out
      obtain ⟨l1, l2, l3⟩ := runs1_all ws (os.take i)
      have hti : (os.take i).length = i := by simp; omega
      clear hc ho'
      generalize hoo : os[i]?.getD noO = o at *
      generalize runs1 ws (os.take i) = s at *
      obtain ⟨ok, oth, oad, on, oold, ow⟩ := o
      simp only at c0 c1 c2 c3 c4 c5 hsn
      obtain ⟨ob, hob⟩ : ∃ ob : Obj, ob = .cells #[.int .i64 ok, .int .i64 oth, .int .i64 oad, .int .i64 on, .int .u64 oold, .int .u64 ow] 33 (0, 0) := ⟨_, rfl⟩
      have W8 := words_s (hMi.below ((Below.refl wr.heap.size wr).alloc (Nat.le_refl _) ob))
      have MB := fun (w2 : World) (hB2 : Below (wr.alloc ob).heap.size (wr.alloc ob) w2) => (hMi.below ((Below.refl wr.heap.size wr).alloc (Nat.le_refl _) ob)).below hB2
      have AC := fun (w3 : World) (m3 : MemS w3 S b s on) => access_any m3 hroomy ⟨ok, oth, oad, on, oold, ow⟩
      have bx1 : (wr.alloc ob).heap[wr.heap.size]? = some ob := heap_alloc_new wr ob
      have nS : ¬ S wr.heap.size := fun h => by have := (hu _ h).2; omega
      have bxc : ∀ W' : World, W'.heap[wr.heap.size]? = some ob → W'.cell? ⟨wr.heap.size, 0, none⟩ = some (.int .i64 ok) ∧ W'.cell? ⟨wr.heap.size, 1, none⟩ = some (.int .i64 oth) ∧ W'.cell? ⟨wr.heap.size, 2, none⟩ = some (.int .i64 oad) ∧ W'.cell? ⟨wr.heap.size, 3, none⟩ = some (.int .i64 on) ∧ W'.cell? ⟨wr.heap.size, 4, none⟩ = some (.int .u64 oold) ∧ W'.cell? ⟨wr.heap.size, 5, none⟩ = some (.int .u64 ow) := fun W' h => by
        rw [hob] at h
        refine ⟨?_, ?_, ?_, ?_, ?_, ?_⟩ <;> simp [World.cell?, h]
      have AF : ∀ (w2 w3 w4 w5 : World) (v8 v10 : Value) (h8 : Has w2 (fun k => (wr.alloc ob).heap.size ≤ k) 31 1 v8 s.ws.length (wrd s.ws)) (hB2 : Below (wr.alloc ob).heap.size (wr.alloc ob) w2) (f3 : Fr w2 w3 S) (m4 : MemS w4 (fun k => S k ∨ w3.heap.size ≤ k) b (stp ⟨ok, oth, oad, on, oold, ow⟩ on s) on) (f4 : Fr w3 w4 S)
          (h10 : Has w5 (fun k => w4.heap.size ≤ k) 31 1 v10 (stp ⟨ok, oth, oad, on, oold, ow⟩ on s).ws.length (wrd (stp ⟨ok, oth, oad, on, oold, ow⟩ on s).ws)) (hB5 : Below w4.heap.size w4 w5), ∃ S', On w w5 S' b (stp ⟨ok, oth, oad, on, oold, ow⟩ on s) on wr.heap.size ob v8 v10 ws.length s.ws (stp ⟨ok, oth, oad, on, oold, ow⟩ on s).ws := fun w2 w3 w4 w5 v8 v10 h8 hB2 f3 m4 f4 h10 hB5 => ⟨_, one_after (o := ⟨ok, oth, oad, on, oold, ow⟩) hu B h8 hB2 f3 m4 f4 h10 hB5 l1⟩
      obtain ⟨W1, hW1⟩ : ∃ W1, wr.alloc ob = W1 := ⟨_, rfl⟩
      have hz1 : W1.heap.size = wr.heap.size + 1 := by rw [← hW1]; simp
      rw [hW1] at W8 MB bx1 AF
      rw [hob] at hW1
      have cz := c0
      replace bxc := Mr.hid bxc
      replace AF := Mr.hid AF
      replace MB := Mr.hid MB
      replace AC := Mr.hid AC
      replace bx1 := Mr.hid bx1
      replace nS := Mr.hid nS
      replace hMi := Mr.hid hMi
      replace hu := Mr.hid hu
      replace B := Mr.hid B
      replace hsn := Mr.hid hsn
      replace hroomy := Mr.hid hroomy
      replace hob := Mr.hid hob
      replace hoo := Mr.hid hoo
      replace l1 := Mr.hid l1
      replace l2 := Mr.hid l2
      clear l3 cz
      go_upto_region 10 with fail
      clear c0 c1 c2 c3 c4 c5
      generalize hbm : wr.heap.size = bm at *
      replace hbm := Mr.hid hbm
      replace hW1 := Mr.hid hW1
      go_upto_region 15 with (first
        | (go_at_call 15; refine W8.mono ?_; clear W8; rintro e w2 ⟨v8, rfl, h8, hB2⟩; have m2 := MB.out w2 hB2; have N2 := count_s m2; have NO := now_s m2 on; have bx2 := (hB2.block bm (by omega)).trans bx1.out; have x3 := (bxc.out w2 bx2).2.2.2.1; replace m2 := Mr.hid m2; replace h8 := Mr.hid h8; replace hB2 := Mr.hid hB2; replace bx2 := Mr.hid bx2)
        | (go_at_call 12; refine N2.mono ?_; clear N2; rintro e w' ⟨rfl, hw⟩; obtain rfl := hw.symm)
        | (go_at_call 16; refine NO.mono ?_; clear NO x3; rintro e w3 ⟨rfl, m3, f3⟩; have A3 := AC.out w3 m3; have bx3 := (f3.block bm (Array.getElem?_eq_some_iff.1 bx2.out).1 nS.out).trans bx2.out; obtain ⟨y0, y1, y2, y3, y4, y5⟩ := bxc.out w3 bx3; replace m3 := Mr.hid m3; replace f3 := Mr.hid f3)
        | (go_at_call 10; refine A3.mono ?_; clear A3; rintro e w4 ⟨rfl, m4, f4⟩; have W10 := words_s m4; clear y0 y1 y2 y3 y4 y5; replace m4 := Mr.hid m4; replace f4 := Mr.hid f4)
        | (go_at_call 15; refine W10.mono ?_; clear W10; rintro e w5 ⟨v10, rfl, h10, hB5⟩; obtain ⟨S', ON⟩ := AF.out w2 w3 w4 w5 v8 v10 h8.out hB2.out f3.out m4.out f4.out h10 hB5; clear AF h10 hB5; obtain ⟨y0, y1, y2, y3, y4, y5⟩ := bxc.out w5 ON.box; have lo := ON.lo; replace ON := Mr.hid ON))
      clear MB AC bx1 bx2 nS m2 h8 hB2 m3 f3 m4 f4 hMi hu B hW1 hz1
      obtain ⟨a8, c8, rfl, _⟩ := ON.out.h8.form
      obtain ⟨a10, c10, rfl, _⟩ := ON.out.h10.form
      have hlw : ws.length ≤ 8192 := by omega
      by_cases hth : 0 ≤ oad ∧ oad < (ws.length : Int)
      · as_aux_lemma =>
        obtain ⟨ad, rfl⟩ : ∃ ad : Nat, oad = ad := ⟨oad.toNat, by omega⟩
        have hal : ad < ws.length := by omega
        obtain ⟨ac, q1, q2, q3, q4, q5, q6, q7⟩ := stp_there ⟨ok, oth, (ad : Int), on, oold, ow⟩ on s ad rfl (by have := l1.out; omega)
        obtain ⟨m0, m1, m2, m3, m4, m5, m6⟩ := ac
        simp only at q2 q3 q4 q6
        obtain rfl : oth = m1 := q2.symm
        obtain rfl : m3 = (ad : Int) := q3
        obtain rfl : on = m0 := q4.symm
        have hslen := stp_len ⟨ok, oth, (ad : Int), on, oold, ow⟩ on s
        generalize stp ⟨ok, oth, (ad : Int), on, oold, ow⟩ on s = s' at *
        have hlgl : s'.lg.length = s.lg.length + 1 := by rw [q1]; simp
        have hlgi : (s'.lg.length : Int) = (s.lg.length : Int) + 1 := by omega
        have N5 := count_s ON.out.m
        rw [hlgi] at N5
        have d1 : decide (0 ≤ (ad : Int)) = true := by simp
        have d2 : decide ((ad : Int) < (ws.length : Int)) = true := by simp; omega
        have d3 : decide (ad < ws.length) = true := by simp; omega
        have hll := l2.out
        have hsl : s.lg.length ≤ 5026338869641 := by omega
        replace q1 := Mr.hid q1
        replace q5 := Mr.hid q5
        replace q6 := Mr.hid q6
        replace q7 := Mr.hid q7
        replace hslen := Mr.hid hslen
        replace hlgl := Mr.hid hlgl
        replace hlgi := Mr.hid hlgi
        replace hll := Mr.hid hll
        replace hti := Mr.hid hti
        go_wp2_with (go_at_call 12; refine N5.mono ?_; clear N5; rintro e w' ⟨rfl, hw⟩; obtain rfl := hw.symm)
        go_loopg [12] ws.length (fun k sl wy => ∃ j : Nat, sl = .int .i64 (j : Int) ∧ j + k = ws.length ∧ On w wy S' b s' on bm ob (.slice a8 ws.length c8) (.slice a10 ws.length c10) ws.length s.ws s'.ws)
        case atStart => exact ⟨0, rfl, by omega, ON.out⟩
        case round =>
          obtain ⟨j, rfl, hj, hO⟩ := hrel
          clear ON y0 y1 y2 y3 y4 y5
          obtain ⟨y0, y1, y2, y3, y4, y5⟩ := bxc.out wr hO.box
          have z1 : bm < wr.heap.size := (Array.getElem?_eq_some_iff.1 hO.box).1
          have sl1 : s.ws.length = ws.length := l1.out
          have sl2 : s'.ws.length = ws.length := by rw [hslen.out]; exact sl1
          by_cases hjl : j < ws.length
          · obtain ⟨g8, cc8, hg8, hg8b, hg8l, hq1, hq2⟩ := hO.h8.there (by omega)
            cases hg8
            obtain ⟨g10, cc10, hg10, hg10b, hg10l, hq3, hq4⟩ := hO.h10.there (by omega)
            cases hg10
            unfold maxLen at hq2 hq4
            have x8 := hO.h8.cells (g := g8) rfl j _ (wrd_get s.ws j (by omega))
            have x10 := hO.h10.cells (g := g10) rfl j _ (wrd_get s'.ws j (by omega))
            have q5' := q5.out j
            have fin : ∀ nd : Nat, On w (wr.drewN nd) S' b s' on bm ob (.slice (some ⟨g8, 0, none⟩) ws.length c8) (.slice (some ⟨g10, 0, none⟩) ws.length c10) ws.length s.ws s'.ws := fun nd => hO.below (belowN _ _)
            generalize s.ws[j]?.getD 0 = xa at *
            generalize s'.ws[j]?.getD 0 = xb at *
            replace fin := Mr.hid fin
            replace hO := Mr.hid hO
            replace sl1 := Mr.hid sl1
            replace sl2 := Mr.hid sl2
            by_cases he : xb = xa
            · subst he
              have v1 : (xb != xb) = false := by simp
              clear q5'
              go_upto_region 21 with fail
              go_quiet (fail)
              go_wp2
              go_roundg (gk - 1)
              case measure => omega
              case rel => exact ⟨j + 1, by simp, by omega, fin.out _⟩
            · have hja : j = ad := Decidable.byContradiction fun h => he (q5' h)
              subst hja
              have v1 : (xb == xa) = false := by simpa using he
              have v2 : (xb != xa) = true := by simpa using he
              clear q5' he
              go_upto_region 21 with fail
              go_quiet (fail)
              go_wp2
              go_roundg (gk - 1)
              case measure => omega
              case rel => exact ⟨j + 1, by simp, by omega, fin.out _⟩
          · obtain ⟨vw, vl, va, hm⟩ := hO.m
            have hroom : (s'.lg.length + s'.lg.length / 4 + 192) * 56 ≤ 281474976710656 := room_mono (by have := hll.out; have := hti.out; have := hlgl.out; omega) hr.out (Nat.le_refl _)
            have L := logged_any hm hroom (s.lg.length : Int) 2
            have hmin : min (s'.lg.length - (s.lg.length : Int).toNat) (2 : Int).toNat = 1 := by have := hlgl.out; simp; omega
            have hent : ent s'.lg (s.lg.length : Int).toNat 1 = [(s.lg.length, ⟨on, oth, m2, (ad : Int), m4, m5, m6⟩)] := by simp [ent, q1.out]
            simp only [hmin] at L
            obtain ⟨g8, cc8, hg8, hg8b, hg8l, hq1, hq2⟩ := hO.h8.there (by omega)
            cases hg8
            obtain ⟨g10, cc10, hg10, hg10b, hg10l, hq3, hq4⟩ := hO.h10.there (by omega)
            cases hg10
            unfold maxLen at hq2 hq4
            have OB := fun (w6 : World) (hB6 : Below wr.heap.size wr w6) => hO.below hB6
            replace hroom := Mr.hid hroom
            replace OB := Mr.hid OB
            replace hm := Mr.hid hm
            replace hO := Mr.hid hO
            replace sl1 := Mr.hid sl1
            replace sl2 := Mr.hid sl2
            replace hent := Mr.hid hent
            replace hmin := Mr.hid hmin
            go_upto_region 25 with (go_at_call 11; refine L.mono ?_; clear L; rintro e w6 ⟨vn, vq, kk, rfl, rfl, hvn, hvq, hB6⟩; rw [hent.out] at hvn hvq; have O6 := OB.out w6 hB6; clear OB; obtain ⟨gn, cn, rfl, hnb, hnl, hn1, hn2⟩ := hvn.there (by omega); obtain ⟨gq, cq, rfl, hqb, hql, hn3, hn4⟩ := hvq.there (by omega); have n0 := hvn.cells (g := gn) rfl 0 (.int .i64 (s.lg.length : Int)) rfl; have k0 := hvq.cells (g := gq) rfl 0 (.int .i64 on) rfl; have k1 := hvq.cells (g := gq) rfl 1 (.int .i64 oth) rfl; have k2 := hvq.cells (g := gq) rfl 2 (.int .i64 m2) rfl; have k3 := hvq.cells (g := gq) rfl 3 (.int .i64 (ad : Int)) rfl; have k4 := hvq.cells (g := gq) rfl 4 (.int .u64 m4) rfl; have k5 := hvq.cells (g := gq) rfl 5 (.int .u64 m5) rfl; have k6 := hvq.cells (g := gq) rfl 6 (.int .u64 m6) rfl; replace O6 := Mr.hid O6; replace hvn := Mr.hid hvn; replace hvq := Mr.hid hvq; replace hB6 := Mr.hid hB6)
            clear y0 y1 y2 y3 y4 y5
            obtain ⟨y0, y1, y2, y3, y4, y5⟩ := bxc.out w6 O6.out.box
            go_quiet (fail)
            have OD := O6.out.below (belowN w6 nq)
            have HQ := hvq.out.below (belowN w6 nq)
            have hqd : gq < (w6.drewN nq).heap.size := hql
            clear y0 y1 y2 y3 y4 y5 k0 k1 k2 k3 k4 k5 k6 n0 O6 hvn hvq hB6
            generalize w6.drewN nq = Wd at *
            have CX : ∀ W' : World, Below Wd.heap.size Wd W' → (W'.cell? ⟨gq, 0, none⟩ = some (.int .i64 on) ∧ W'.cell? ⟨gq, 1, none⟩ = some (.int .i64 oth) ∧ W'.cell? ⟨gq, 2, none⟩ = some (.int .i64 m2) ∧ W'.cell? ⟨gq, 3, none⟩ = some (.int .i64 (ad : Int)) ∧ W'.cell? ⟨gq, 4, none⟩ = some (.int .u64 m4) ∧ W'.cell? ⟨gq, 5, none⟩ = some (.int .u64 m5) ∧ W'.cell? ⟨gq, 6, none⟩ = some (.int .u64 m6)) ∧ W'.cell? ⟨bm, 2, none⟩ = some (.int .i64 (ad : Int)) ∧ W'.cell? ⟨g10, ad, none⟩ = some (.int .u64 (s'.ws[ad]?.getD 0)) ∧ W'.cell? ⟨g8, ad, none⟩ = some (.int .u64 (s.ws[ad]?.getD 0)) := fun W' hB => by
              have h1 := HQ.below hB
              have h2 := OD.below hB
              have e1 := sl1.out
              have e2 := sl2.out
              exact ⟨⟨h1.cells (g := gq) rfl 0 _ rfl, h1.cells (g := gq) rfl 1 _ rfl, h1.cells (g := gq) rfl 2 _ rfl, h1.cells (g := gq) rfl 3 _ rfl, h1.cells (g := gq) rfl 4 _ rfl, h1.cells (g := gq) rfl 5 _ rfl, h1.cells (g := gq) rfl 6 _ rfl⟩, (bxc.out W' h2.box).2.2.1, h2.h10.cells (g := g10) rfl ad _ (wrd_get s'.ws ad (by omega)), h2.h8.cells (g := g8) rfl ad _ (wrd_get s.ws ad (by omega))⟩
            obtain ⟨⟨k0, k1, k2, k3, k4, k5, k6⟩, y2, x10, x8⟩ := CX Wd (Below.refl _ _)
            have V := fun (W' : World) => (writes_any on oth m2 (ad : Int) m4 m5 m6 W').mono (R' := fun e w' => e = .returned (.bool (wrt ⟨on, oth, m2, (ad : Int), m4, m5, m6⟩)) ∧ Below W'.heap.size W' w') (fun e w' ⟨h1, h2⟩ => ⟨h1, by rw [h2]; exact (Below.refl _ _).alloc (Nat.le_refl _) _⟩)
            have hDd : Below Wd.heap.size Wd Wd.drew := (Below.refl _ _).drew
            have fin : ∀ W' : World, Below Wd.heap.size Wd W' → ∃ (i' : Nat) (S : Nat → Prop) (mv : Int), (Value.int .i64 ((i : Int) + 1)) = .int .i64 (i' : Int) ∧ i' + (gk1 - 1) = os.length ∧ MemS W' S b (runs1 ws (os.take i')) mv ∧ (∀ k, S k → w.heap.size ≤ k ∧ k < W'.heap.size) ∧ Below w.heap.size w W' := fun W' hB => ⟨i + 1, S', on, by simp, by omega, by rw [hsn.out]; exact (OD.below hB).m, (OD.below hB).u, (OD.below hB).bel⟩
            replace CX := Mr.hid CX
            replace OD := Mr.hid OD
            replace HQ := Mr.hid HQ
            replace fin := Mr.hid fin
            replace hDd := Mr.hid hDd
            clear hent hmin hroom hm
            have adl : ad < ws.length := hal
            go_wp2
            cases hw : wrt ⟨on, oth, m2, (ad : Int), m4, m5, m6⟩
            · as_aux_lemma =>
              rw [q7.out hw] at CX x10
              rw [hw] at V
              generalize s.ws[ad]?.getD 0 = xv at *
              have v1 : (xv != xv) = false := by simp
              refine wp_region_held_drew (S := (fun w' => w'.cell? ⟨gq, 0, none⟩ = some (.int .i64 on) ∧ w'.cell? ⟨gq, 1, none⟩ = some (.int .i64 oth) ∧ w'.cell? ⟨gq, 2, none⟩ = some (.int .i64 m2) ∧ w'.cell? ⟨gq, 3, none⟩ = some (.int .i64 (ad : Int)) ∧ w'.cell? ⟨gq, 4, none⟩ = some (.int .u64 m4) ∧ w'.cell? ⟨gq, 5, none⟩ = some (.int .u64 m5) ∧ w'.cell? ⟨gq, 6, none⟩ = some (.int .u64 m6) ∧ w'.cell? ⟨bm, 2, none⟩ = some (.int .i64 (ad : Int)) ∧ w'.cell? ⟨g10, ad, none⟩ = some (.int .u64 xv) ∧ w'.cell? ⟨g8, ad, none⟩ = some (.int .u64 xv))) (by kernel_rfl) ⟨k0, k1, k2, k3, k4, k5, k6, y2, x10, x8⟩ (fun hS => ?_)
              try simp only [Act.put, List.getElem_toArray, List.getElem_cons_zero, List.getElem_cons_succ, List.setIfInBounds_toArray, List.set_cons_zero, List.set_cons_succ]
              refine wpAnyH_take (i := 0) (v := .slice (some ⟨gq, 0, none⟩) 1 cq) rfl (by kernel_rfl) (by kernel_rfl) (by kernel_rfl) (fun _ _ _ h => h) (Or.inl ⟨by kernel_rfl, fun w' hw => ?y0⟩) hS ?_
              case y0 =>
                obtain ⟨s1, s2, s3, s4, s5, s6, s7, s8, s9, s10⟩ := hw
                clear hS
                go_simp
              try simp only [Act.put, List.getElem_toArray, List.getElem_cons_zero, List.setIfInBounds_toArray, List.set_cons_zero, List.set_cons_succ]
              refine wpAnyH_take (i := 1) (v := .pointer (some ⟨gq, 0, none⟩)) rfl (by kernel_rfl) (by kernel_rfl) (by kernel_rfl) (fun _ _ _ h => h) (Or.inl ⟨by kernel_rfl, fun w' hw => ?y1⟩) hS ?_
              case y1 =>
                obtain ⟨s1, s2, s3, s4, s5, s6, s7, s8, s9, s10⟩ := hw
                clear hS
                go_simp
              try simp only [Act.put, List.getElem_toArray, List.getElem_cons_zero, List.getElem_cons_succ, List.setIfInBounds_toArray, List.set_cons_zero, List.set_cons_succ]
              refine wpAnyH_take (i := 2) (v := .agg #[.int .i64 on, .int .i64 oth, .int .i64 m2, .int .i64 (ad : Int), .int .u64 m4, .int .u64 m5, .int .u64 m6]) rfl (by kernel_rfl) (by kernel_rfl) (by kernel_rfl) (fun _ _ _ h => h) (Or.inl ⟨by kernel_rfl, fun w' hw => ?y2⟩) hS ?_
              case y2 =>
                obtain ⟨s1, s2, s3, s4, s5, s6, s7, s8, s9, s10⟩ := hw
                clear hS
                go_simp
              try simp only [Act.put, List.getElem_toArray, List.getElem_cons_zero, List.getElem_cons_succ, List.setIfInBounds_toArray, List.set_cons_zero, List.set_cons_succ]
              refine wpAnyH_ready (rs := [3]) (by kernel_rfl) (by simp) (AllReadyH.cons rfl (fun K hK => ?_) AllReadyH.nil)
              go_simp
              refine (V _).mono ?_
              rintro e w7 ⟨rfl, hB7⟩
              have T7 : Below Wd.heap.size Wd w7 := hDd.out.trans hB7
              have C7 := CX.out w7 T7
              replace T7 := Mr.hid T7
              refine hK.out _ _ ⟨C7.1.1, C7.1.2.1, C7.1.2.2.1, C7.1.2.2.2.1, C7.1.2.2.2.2.1, C7.1.2.2.2.2.2.1, C7.1.2.2.2.2.2.2, C7.2.1, C7.2.2.1, C7.2.2.2⟩ (fun hS => ?_)
              clear hK K C7
              try simp only [Act.put, List.getElem_toArray, List.getElem_cons_zero, List.getElem_cons_succ, List.setIfInBounds_toArray, List.set_cons_zero, List.set_cons_succ]
              refine wpAnyH_take (i := 4) (v := .bool false) rfl (by kernel_rfl) (by kernel_rfl) (by kernel_rfl) (fun _ _ _ h => h) (Or.inl ⟨by kernel_rfl, fun w' hw => ?y4⟩) hS ?_
              case y4 =>
                obtain ⟨s1, s2, s3, s4, s5, s6, s7, s8, s9, s10⟩ := hw
                clear hS
                go_simp
              try simp only [Act.put, List.getElem_toArray, List.getElem_cons_zero, List.getElem_cons_succ, List.setIfInBounds_toArray, List.set_cons_zero, List.set_cons_succ]
              refine wpAnyH_take (i := 5) (v := undef) rfl (by kernel_rfl) (by kernel_rfl) (by kernel_rfl) (fun _ _ _ h => h) (Or.inr ⟨by kernel_rfl, rfl⟩) hS ?_
              try simp only [Act.put, List.getElem_toArray, List.getElem_cons_zero, List.getElem_cons_succ, List.setIfInBounds_toArray, List.set_cons_zero, List.set_cons_succ]
              refine wpAnyH_take (i := 6) (v := undef) rfl (by kernel_rfl) (by kernel_rfl) (by kernel_rfl) (fun _ _ _ h => h) (Or.inr ⟨by kernel_rfl, rfl⟩) hS ?_
              try simp only [Act.put, List.getElem_toArray, List.getElem_cons_zero, List.getElem_cons_succ, List.setIfInBounds_toArray, List.set_cons_zero, List.set_cons_succ]
              refine wpAnyH_take (i := 7) (v := undef) rfl (by kernel_rfl) (by kernel_rfl) (by kernel_rfl) (fun _ _ _ h => h) (Or.inr ⟨by kernel_rfl, rfl⟩) hS ?_
              try simp only [Act.put, List.getElem_toArray, List.getElem_cons_zero, List.getElem_cons_succ, List.setIfInBounds_toArray, List.set_cons_zero, List.set_cons_succ]
              refine wpAnyH_take (i := 8) (v := undef) rfl (by kernel_rfl) (by kernel_rfl) (by kernel_rfl) (fun _ _ _ h => h) (Or.inr ⟨by kernel_rfl, rfl⟩) hS ?_
              try simp only [Act.put, List.getElem_toArray, List.getElem_cons_zero, List.getElem_cons_succ, List.setIfInBounds_toArray, List.set_cons_zero, List.set_cons_succ]
              refine wpAnyH_take (i := 9) (v := undef) rfl (by kernel_rfl) (by kernel_rfl) (by kernel_rfl) (fun _ _ _ h => h) (Or.inr ⟨by kernel_rfl, rfl⟩) hS ?_
              try simp only [Act.put, List.getElem_toArray, List.getElem_cons_zero, List.getElem_cons_succ, List.setIfInBounds_toArray, List.set_cons_zero, List.set_cons_succ]
              refine wpAnyH_take (i := 10) (v := undef) rfl (by kernel_rfl) (by kernel_rfl) (by kernel_rfl) (fun _ _ _ h => h) (Or.inr ⟨by kernel_rfl, rfl⟩) hS ?_
              try simp only [Act.put, List.getElem_toArray, List.getElem_cons_zero, List.getElem_cons_succ, List.setIfInBounds_toArray, List.set_cons_zero, List.set_cons_succ]
              refine wpAnyH_take (i := 11) (v := undef) rfl (by kernel_rfl) (by kernel_rfl) (by kernel_rfl) (fun _ _ _ h => h) (Or.inr ⟨by kernel_rfl, rfl⟩) hS ?_
              try simp only [Act.put, List.getElem_toArray, List.getElem_cons_zero, List.getElem_cons_succ, List.setIfInBounds_toArray, List.set_cons_zero, List.set_cons_succ]
              refine wpAnyH_take (i := 12) (v := undef) rfl (by kernel_rfl) (by kernel_rfl) (by kernel_rfl) (fun _ _ _ h => h) (Or.inr ⟨by kernel_rfl, rfl⟩) hS ?_
              try simp only [Act.put, List.getElem_toArray, List.getElem_cons_zero, List.getElem_cons_succ, List.setIfInBounds_toArray, List.set_cons_zero, List.set_cons_succ]
              refine wpAnyH_take (i := 13) (v := undef) rfl (by kernel_rfl) (by kernel_rfl) (by kernel_rfl) (fun _ _ _ h => h) (Or.inr ⟨by kernel_rfl, rfl⟩) hS ?_
              try simp only [Act.put, List.getElem_toArray, List.getElem_cons_zero, List.getElem_cons_succ, List.setIfInBounds_toArray, List.set_cons_zero, List.set_cons_succ]
              refine wpAnyH_take (i := 14) (v := undef) rfl (by kernel_rfl) (by kernel_rfl) (by kernel_rfl) (fun _ _ _ h => h) (Or.inr ⟨by kernel_rfl, rfl⟩) hS ?_
              try simp only [Act.put, List.getElem_toArray, List.getElem_cons_zero, List.getElem_cons_succ, List.setIfInBounds_toArray, List.set_cons_zero, List.set_cons_succ]
              refine wpAnyH_take (i := 15) (v := .bool false) rfl (by kernel_rfl) (by kernel_rfl) (by kernel_rfl) (fun _ _ _ h => h) (Or.inl ⟨by kernel_rfl, fun w' hw => ?y15⟩) hS ?_
              case y15 =>
                obtain ⟨s1, s2, s3, s4, s5, s6, s7, s8, s9, s10⟩ := hw
                clear hS
                go_simp
              try simp only [Act.put, List.getElem_toArray, List.getElem_cons_zero, List.getElem_cons_succ, List.setIfInBounds_toArray, List.set_cons_zero, List.set_cons_succ]
              refine wpAnyH_take (i := 16) (v := .bool false) rfl (by kernel_rfl) (by kernel_rfl) (by kernel_rfl) (fun _ _ _ h => h) (Or.inl ⟨by kernel_rfl, fun w' hw => ?y16⟩) hS ?_
              case y16 =>
                obtain ⟨s1, s2, s3, s4, s5, s6, s7, s8, s9, s10⟩ := hw
                clear hS
                go_simp
              try simp only [Act.put, List.getElem_toArray, List.getElem_cons_zero, List.getElem_cons_succ, List.setIfInBounds_toArray, List.set_cons_zero, List.set_cons_succ]
              refine wpAnyH_take (i := 17) (v := .slice (some ⟨gq, 0, none⟩) 1 cq) rfl (by kernel_rfl) (by kernel_rfl) (by kernel_rfl) (fun _ _ _ h => h) (Or.inl ⟨by kernel_rfl, fun w' hw => ?y17⟩) hS ?_
              case y17 =>
                obtain ⟨s1, s2, s3, s4, s5, s6, s7, s8, s9, s10⟩ := hw
                clear hS
                go_simp
              try simp only [Act.put, List.getElem_toArray, List.getElem_cons_zero, List.getElem_cons_succ, List.setIfInBounds_toArray, List.set_cons_zero, List.set_cons_succ]
              refine wpAnyH_take (i := 18) (v := .pointer (some ⟨gq, 0, none⟩)) rfl (by kernel_rfl) (by kernel_rfl) (by kernel_rfl) (fun _ _ _ h => h) (Or.inl ⟨by kernel_rfl, fun w' hw => ?y18⟩) hS ?_
              case y18 =>
                obtain ⟨s1, s2, s3, s4, s5, s6, s7, s8, s9, s10⟩ := hw
                clear hS
                go_simp
              try simp only [Act.put, List.getElem_toArray, List.getElem_cons_zero, List.getElem_cons_succ, List.setIfInBounds_toArray, List.set_cons_zero, List.set_cons_succ]
              refine wpAnyH_take (i := 19) (v := .agg #[.int .i64 on, .int .i64 oth, .int .i64 m2, .int .i64 (ad : Int), .int .u64 m4, .int .u64 m5, .int .u64 m6]) rfl (by kernel_rfl) (by kernel_rfl) (by kernel_rfl) (fun _ _ _ h => h) (Or.inl ⟨by kernel_rfl, fun w' hw => ?y19⟩) hS ?_
              case y19 =>
                obtain ⟨s1, s2, s3, s4, s5, s6, s7, s8, s9, s10⟩ := hw
                clear hS
                go_simp
              try simp only [Act.put, List.getElem_toArray, List.getElem_cons_zero, List.getElem_cons_succ, List.setIfInBounds_toArray, List.set_cons_zero, List.set_cons_succ]
              refine wpAnyH_ready (rs := [20]) (by kernel_rfl) (by simp) (AllReadyH.cons rfl (fun K hK => ?_) AllReadyH.nil)
              go_simp
              refine (V _).mono ?_
              rintro e w8 ⟨rfl, hB8⟩
              have T8 : Below Wd.heap.size Wd w8 := T7.out.trans (hB8.mono T7.out.size)
              have C7 := CX.out w8 T8
              replace T8 := Mr.hid T8
              refine hK.out _ _ ⟨C7.1.1, C7.1.2.1, C7.1.2.2.1, C7.1.2.2.2.1, C7.1.2.2.2.2.1, C7.1.2.2.2.2.2.1, C7.1.2.2.2.2.2.2, C7.2.1, C7.2.2.1, C7.2.2.2⟩ (fun hS => ?_)
              clear hK K C7
              try simp only [Act.put, List.getElem_toArray, List.getElem_cons_zero, List.getElem_cons_succ, List.setIfInBounds_toArray, List.set_cons_zero, List.set_cons_succ]
              refine wpAnyH_take (i := 21) (v := .bool true) rfl (by kernel_rfl) (by kernel_rfl) (by kernel_rfl) (fun _ _ _ h => h) (Or.inl ⟨by kernel_rfl, fun w' hw => ?y21⟩) hS ?_
              case y21 =>
                obtain ⟨s1, s2, s3, s4, s5, s6, s7, s8, s9, s10⟩ := hw
                clear hS
                go_simp
              try simp only [Act.put, List.getElem_toArray, List.getElem_cons_zero, List.getElem_cons_succ, List.setIfInBounds_toArray, List.set_cons_zero, List.set_cons_succ]
              refine wpAnyH_take (i := 22) (v := .bool true) rfl (by kernel_rfl) (by kernel_rfl) (by kernel_rfl) (fun _ _ _ h => h) (Or.inl ⟨by kernel_rfl, fun w' hw => ?y22⟩) hS ?_
              case y22 =>
                obtain ⟨s1, s2, s3, s4, s5, s6, s7, s8, s9, s10⟩ := hw
                clear hS
                go_simp
              try simp only [Act.put, List.getElem_toArray, List.getElem_cons_zero, List.getElem_cons_succ, List.setIfInBounds_toArray, List.set_cons_zero, List.set_cons_succ]
              refine wpAnyH_take (i := 23) (v := .slice (some ⟨g10, 0, none⟩) ws.length c10) rfl (by kernel_rfl) (by kernel_rfl) (by kernel_rfl) (fun _ _ _ h => h) (Or.inl ⟨by kernel_rfl, fun w' hw => ?y23⟩) hS ?_
              case y23 =>
                obtain ⟨s1, s2, s3, s4, s5, s6, s7, s8, s9, s10⟩ := hw
                clear hS
                go_simp
              try simp only [Act.put, List.getElem_toArray, List.getElem_cons_zero, List.getElem_cons_succ, List.setIfInBounds_toArray, List.set_cons_zero, List.set_cons_succ]
              refine wpAnyH_take (i := 24) (v := .pointer (some ⟨bm, 2, none⟩)) rfl (by kernel_rfl) (by kernel_rfl) (by kernel_rfl) (fun _ _ _ h => h) (Or.inl ⟨by kernel_rfl, fun w' hw => ?y24⟩) hS ?_
              case y24 =>
                obtain ⟨s1, s2, s3, s4, s5, s6, s7, s8, s9, s10⟩ := hw
                clear hS
                go_simp
              try simp only [Act.put, List.getElem_toArray, List.getElem_cons_zero, List.getElem_cons_succ, List.setIfInBounds_toArray, List.set_cons_zero, List.set_cons_succ]
              refine wpAnyH_take (i := 25) (v := .int .i64 (ad : Int)) rfl (by kernel_rfl) (by kernel_rfl) (by kernel_rfl) (fun _ _ _ h => h) (Or.inl ⟨by kernel_rfl, fun w' hw => ?y25⟩) hS ?_
              case y25 =>
                obtain ⟨s1, s2, s3, s4, s5, s6, s7, s8, s9, s10⟩ := hw
                clear hS
                go_simp
              try simp only [Act.put, List.getElem_toArray, List.getElem_cons_zero, List.getElem_cons_succ, List.setIfInBounds_toArray, List.set_cons_zero, List.set_cons_succ]
              refine wpAnyH_take (i := 26) (v := .pointer (some ⟨g10, ad, none⟩)) rfl (by kernel_rfl) (by kernel_rfl) (by kernel_rfl) (fun _ _ _ h => h) (Or.inl ⟨by kernel_rfl, fun w' hw => ?y26⟩) hS ?_
              case y26 =>
                obtain ⟨s1, s2, s3, s4, s5, s6, s7, s8, s9, s10⟩ := hw
                clear hS
                go_simp
              try simp only [Act.put, List.getElem_toArray, List.getElem_cons_zero, List.getElem_cons_succ, List.setIfInBounds_toArray, List.set_cons_zero, List.set_cons_succ]
              refine wpAnyH_take (i := 27) (v := .int .u64 xv) rfl (by kernel_rfl) (by kernel_rfl) (by kernel_rfl) (fun _ _ _ h => h) (Or.inl ⟨by kernel_rfl, fun w' hw => ?y27⟩) hS ?_
              case y27 =>
                obtain ⟨s1, s2, s3, s4, s5, s6, s7, s8, s9, s10⟩ := hw
                clear hS
                go_simp
              try simp only [Act.put, List.getElem_toArray, List.getElem_cons_zero, List.getElem_cons_succ, List.setIfInBounds_toArray, List.set_cons_zero, List.set_cons_succ]
              refine wpAnyH_take (i := 28) (v := .slice (some ⟨g8, 0, none⟩) ws.length c8) rfl (by kernel_rfl) (by kernel_rfl) (by kernel_rfl) (fun _ _ _ h => h) (Or.inl ⟨by kernel_rfl, fun w' hw => ?y28⟩) hS ?_
              case y28 =>
                obtain ⟨s1, s2, s3, s4, s5, s6, s7, s8, s9, s10⟩ := hw
                clear hS
                go_simp
              try simp only [Act.put, List.getElem_toArray, List.getElem_cons_zero, List.getElem_cons_succ, List.setIfInBounds_toArray, List.set_cons_zero, List.set_cons_succ]
              refine wpAnyH_take (i := 29) (v := .pointer (some ⟨bm, 2, none⟩)) rfl (by kernel_rfl) (by kernel_rfl) (by kernel_rfl) (fun _ _ _ h => h) (Or.inl ⟨by kernel_rfl, fun w' hw => ?y29⟩) hS ?_
              case y29 =>
                obtain ⟨s1, s2, s3, s4, s5, s6, s7, s8, s9, s10⟩ := hw
                clear hS
                go_simp
              try simp only [Act.put, List.getElem_toArray, List.getElem_cons_zero, List.getElem_cons_succ, List.setIfInBounds_toArray, List.set_cons_zero, List.set_cons_succ]
              refine wpAnyH_take (i := 30) (v := .int .i64 (ad : Int)) rfl (by kernel_rfl) (by kernel_rfl) (by kernel_rfl) (fun _ _ _ h => h) (Or.inl ⟨by kernel_rfl, fun w' hw => ?y30⟩) hS ?_
              case y30 =>
                obtain ⟨s1, s2, s3, s4, s5, s6, s7, s8, s9, s10⟩ := hw
                clear hS
                go_simp
              try simp only [Act.put, List.getElem_toArray, List.getElem_cons_zero, List.getElem_cons_succ, List.setIfInBounds_toArray, List.set_cons_zero, List.set_cons_succ]
              refine wpAnyH_take (i := 31) (v := .pointer (some ⟨g8, ad, none⟩)) rfl (by kernel_rfl) (by kernel_rfl) (by kernel_rfl) (fun _ _ _ h => h) (Or.inl ⟨by kernel_rfl, fun w' hw => ?y31⟩) hS ?_
              case y31 =>
                obtain ⟨s1, s2, s3, s4, s5, s6, s7, s8, s9, s10⟩ := hw
                clear hS
                go_simp
              try simp only [Act.put, List.getElem_toArray, List.getElem_cons_zero, List.getElem_cons_succ, List.setIfInBounds_toArray, List.set_cons_zero, List.set_cons_succ]
              refine wpAnyH_take (i := 32) (v := .int .u64 xv) rfl (by kernel_rfl) (by kernel_rfl) (by kernel_rfl) (fun _ _ _ h => h) (Or.inl ⟨by kernel_rfl, fun w' hw => ?y32⟩) hS ?_
              case y32 =>
                obtain ⟨s1, s2, s3, s4, s5, s6, s7, s8, s9, s10⟩ := hw
                clear hS
                go_simp
              try simp only [Act.put, List.getElem_toArray, List.getElem_cons_zero, List.getElem_cons_succ, List.setIfInBounds_toArray, List.set_cons_zero, List.set_cons_succ]
              refine wpAnyH_take (i := 33) (v := .bool false) rfl (by kernel_rfl) (by kernel_rfl) (by kernel_rfl) (fun _ _ _ h => h) (Or.inl ⟨by kernel_rfl, fun w' hw => ?y33⟩) hS ?_
              case y33 =>
                obtain ⟨s1, s2, s3, s4, s5, s6, s7, s8, s9, s10⟩ := hw
                clear hS
                go_simp
              try simp only [Act.put, List.getElem_toArray, List.getElem_cons_zero, List.getElem_cons_succ, List.setIfInBounds_toArray, List.set_cons_zero, List.set_cons_succ]
              refine wpAnyH_take (i := 34) (v := .bool false) rfl (by kernel_rfl) (by kernel_rfl) (by kernel_rfl) (fun _ _ _ h => h) (Or.inl ⟨by kernel_rfl, fun w' hw => ?y34⟩) hS ?_
              case y34 =>
                obtain ⟨s1, s2, s3, s4, s5, s6, s7, s8, s9, s10⟩ := hw
                clear hS
                go_simp
              try simp only [Act.put, List.getElem_toArray, List.getElem_cons_zero, List.getElem_cons_succ, List.setIfInBounds_toArray, List.set_cons_zero, List.set_cons_succ]
              refine wpAnyH_take (i := 35) (v := .bool false) rfl (by kernel_rfl) (by kernel_rfl) (by kernel_rfl) (fun _ _ _ h => h) (Or.inl ⟨by kernel_rfl, fun w' hw => ?y35⟩) hS ?_
              case y35 =>
                obtain ⟨s1, s2, s3, s4, s5, s6, s7, s8, s9, s10⟩ := hw
                clear hS
                go_simp
              try simp only [Act.put, List.getElem_toArray, List.getElem_cons_zero, List.getElem_cons_succ, List.setIfInBounds_toArray, List.set_cons_zero, List.set_cons_succ]
              refine wpAnyH_done (by kernel_rfl) ?_ _
              go_wp2
              go_roundg (gk1 - 1)
              case measure => omega
              case rel => exact fin.out _ T8.out
            · as_aux_lemma =>
              rw [q6.out hw] at CX x10
              rw [hw] at V
              have v1 : (m5 != m5) = false := by simp
              generalize s.ws[ad]?.getD 0 = xv at *
              refine wp_region_held_drew (S := (fun w' => w'.cell? ⟨gq, 0, none⟩ = some (.int .i64 on) ∧ w'.cell? ⟨gq, 1, none⟩ = some (.int .i64 oth) ∧ w'.cell? ⟨gq, 2, none⟩ = some (.int .i64 m2) ∧ w'.cell? ⟨gq, 3, none⟩ = some (.int .i64 (ad : Int)) ∧ w'.cell? ⟨gq, 4, none⟩ = some (.int .u64 m4) ∧ w'.cell? ⟨gq, 5, none⟩ = some (.int .u64 m5) ∧ w'.cell? ⟨gq, 6, none⟩ = some (.int .u64 m6) ∧ w'.cell? ⟨bm, 2, none⟩ = some (.int .i64 (ad : Int)) ∧ w'.cell? ⟨g10, ad, none⟩ = some (.int .u64 m5) ∧ w'.cell? ⟨g8, ad, none⟩ = some (.int .u64 xv))) (by kernel_rfl) ⟨k0, k1, k2, k3, k4, k5, k6, y2, x10, x8⟩ (fun hS => ?_)
              try simp only [Act.put, List.getElem_toArray, List.getElem_cons_zero, List.getElem_cons_succ, List.setIfInBounds_toArray, List.set_cons_zero, List.set_cons_succ]
              refine wpAnyH_take (i := 0) (v := .slice (some ⟨gq, 0, none⟩) 1 cq) rfl (by kernel_rfl) (by kernel_rfl) (by kernel_rfl) (fun _ _ _ h => h) (Or.inl ⟨by kernel_rfl, fun w' hw => ?y0⟩) hS ?_
              case y0 =>
                obtain ⟨s1, s2, s3, s4, s5, s6, s7, s8, s9, s10⟩ := hw
                clear hS
                go_simp
              try simp only [Act.put, List.getElem_toArray, List.getElem_cons_zero, List.setIfInBounds_toArray, List.set_cons_zero, List.set_cons_succ]
              refine wpAnyH_take (i := 1) (v := .pointer (some ⟨gq, 0, none⟩)) rfl (by kernel_rfl) (by kernel_rfl) (by kernel_rfl) (fun _ _ _ h => h) (Or.inl ⟨by kernel_rfl, fun w' hw => ?y1⟩) hS ?_
              case y1 =>
                obtain ⟨s1, s2, s3, s4, s5, s6, s7, s8, s9, s10⟩ := hw
                clear hS
                go_simp
              try simp only [Act.put, List.getElem_toArray, List.getElem_cons_zero, List.getElem_cons_succ, List.setIfInBounds_toArray, List.set_cons_zero, List.set_cons_succ]
              refine wpAnyH_take (i := 2) (v := .agg #[.int .i64 on, .int .i64 oth, .int .i64 m2, .int .i64 (ad : Int), .int .u64 m4, .int .u64 m5, .int .u64 m6]) rfl (by kernel_rfl) (by kernel_rfl) (by kernel_rfl) (fun _ _ _ h => h) (Or.inl ⟨by kernel_rfl, fun w' hw => ?y2⟩) hS ?_
              case y2 =>
                obtain ⟨s1, s2, s3, s4, s5, s6, s7, s8, s9, s10⟩ := hw
                clear hS
                go_simp
              try simp only [Act.put, List.getElem_toArray, List.getElem_cons_zero, List.getElem_cons_succ, List.setIfInBounds_toArray, List.set_cons_zero, List.set_cons_succ]
              refine wpAnyH_ready (rs := [3]) (by kernel_rfl) (by simp) (AllReadyH.cons rfl (fun K hK => ?_) AllReadyH.nil)
              go_simp
              refine (V _).mono ?_
              rintro e w7 ⟨rfl, hB7⟩
              have T7 : Below Wd.heap.size Wd w7 := hDd.out.trans hB7
              have C7 := CX.out w7 T7
              replace T7 := Mr.hid T7
              refine hK.out _ _ ⟨C7.1.1, C7.1.2.1, C7.1.2.2.1, C7.1.2.2.2.1, C7.1.2.2.2.2.1, C7.1.2.2.2.2.2.1, C7.1.2.2.2.2.2.2, C7.2.1, C7.2.2.1, C7.2.2.2⟩ (fun hS => ?_)
              clear hK K C7
              try simp only [Act.put, List.getElem_toArray, List.getElem_cons_zero, List.getElem_cons_succ, List.setIfInBounds_toArray, List.set_cons_zero, List.set_cons_succ]
              refine wpAnyH_take (i := 4) (v := .bool true) rfl (by kernel_rfl) (by kernel_rfl) (by kernel_rfl) (fun _ _ _ h => h) (Or.inl ⟨by kernel_rfl, fun w' hw => ?y4⟩) hS ?_
              case y4 =>
                obtain ⟨s1, s2, s3, s4, s5, s6, s7, s8, s9, s10⟩ := hw
                clear hS
                go_simp
              try simp only [Act.put, List.getElem_toArray, List.getElem_cons_zero, List.getElem_cons_succ, List.setIfInBounds_toArray, List.set_cons_zero, List.set_cons_succ]
              refine wpAnyH_take (i := 5) (v := .slice (some ⟨g10, 0, none⟩) ws.length c10) rfl (by kernel_rfl) (by kernel_rfl) (by kernel_rfl) (fun _ _ _ h => h) (Or.inl ⟨by kernel_rfl, fun w' hw => ?y5⟩) hS ?_
              case y5 =>
                obtain ⟨s1, s2, s3, s4, s5, s6, s7, s8, s9, s10⟩ := hw
                clear hS
                go_simp
              try simp only [Act.put, List.getElem_toArray, List.getElem_cons_zero, List.getElem_cons_succ, List.setIfInBounds_toArray, List.set_cons_zero, List.set_cons_succ]
              refine wpAnyH_take (i := 6) (v := .pointer (some ⟨bm, 2, none⟩)) rfl (by kernel_rfl) (by kernel_rfl) (by kernel_rfl) (fun _ _ _ h => h) (Or.inl ⟨by kernel_rfl, fun w' hw => ?y6⟩) hS ?_
              case y6 =>
                obtain ⟨s1, s2, s3, s4, s5, s6, s7, s8, s9, s10⟩ := hw
                clear hS
                go_simp
              try simp only [Act.put, List.getElem_toArray, List.getElem_cons_zero, List.getElem_cons_succ, List.setIfInBounds_toArray, List.set_cons_zero, List.set_cons_succ]
              refine wpAnyH_take (i := 7) (v := .int .i64 (ad : Int)) rfl (by kernel_rfl) (by kernel_rfl) (by kernel_rfl) (fun _ _ _ h => h) (Or.inl ⟨by kernel_rfl, fun w' hw => ?y7⟩) hS ?_
              case y7 =>
                obtain ⟨s1, s2, s3, s4, s5, s6, s7, s8, s9, s10⟩ := hw
                clear hS
                go_simp
              try simp only [Act.put, List.getElem_toArray, List.getElem_cons_zero, List.getElem_cons_succ, List.setIfInBounds_toArray, List.set_cons_zero, List.set_cons_succ]
              refine wpAnyH_take (i := 8) (v := .pointer (some ⟨g10, ad, none⟩)) rfl (by kernel_rfl) (by kernel_rfl) (by kernel_rfl) (fun _ _ _ h => h) (Or.inl ⟨by kernel_rfl, fun w' hw => ?y8⟩) hS ?_
              case y8 =>
                obtain ⟨s1, s2, s3, s4, s5, s6, s7, s8, s9, s10⟩ := hw
                clear hS
                go_simp
              try simp only [Act.put, List.getElem_toArray, List.getElem_cons_zero, List.getElem_cons_succ, List.setIfInBounds_toArray, List.set_cons_zero, List.set_cons_succ]
              refine wpAnyH_take (i := 9) (v := .int .u64 m5) rfl (by kernel_rfl) (by kernel_rfl) (by kernel_rfl) (fun _ _ _ h => h) (Or.inl ⟨by kernel_rfl, fun w' hw => ?y9⟩) hS ?_
              case y9 =>
                obtain ⟨s1, s2, s3, s4, s5, s6, s7, s8, s9, s10⟩ := hw
                clear hS
                go_simp
              try simp only [Act.put, List.getElem_toArray, List.getElem_cons_zero, List.getElem_cons_succ, List.setIfInBounds_toArray, List.set_cons_zero, List.set_cons_succ]
              refine wpAnyH_take (i := 10) (v := .slice (some ⟨gq, 0, none⟩) 1 cq) rfl (by kernel_rfl) (by kernel_rfl) (by kernel_rfl) (fun _ _ _ h => h) (Or.inl ⟨by kernel_rfl, fun w' hw => ?y10⟩) hS ?_
              case y10 =>
                obtain ⟨s1, s2, s3, s4, s5, s6, s7, s8, s9, s10⟩ := hw
                clear hS
                go_simp
              try simp only [Act.put, List.getElem_toArray, List.getElem_cons_zero, List.getElem_cons_succ, List.setIfInBounds_toArray, List.set_cons_zero, List.set_cons_succ]
              refine wpAnyH_take (i := 11) (v := .pointer (some ⟨gq, 0, none⟩)) rfl (by kernel_rfl) (by kernel_rfl) (by kernel_rfl) (fun _ _ _ h => h) (Or.inl ⟨by kernel_rfl, fun w' hw => ?y11⟩) hS ?_
              case y11 =>
                obtain ⟨s1, s2, s3, s4, s5, s6, s7, s8, s9, s10⟩ := hw
                clear hS
                go_simp
              try simp only [Act.put, List.getElem_toArray, List.getElem_cons_zero, List.getElem_cons_succ, List.setIfInBounds_toArray, List.set_cons_zero, List.set_cons_succ]
              refine wpAnyH_take (i := 12) (v := .pointer (some ⟨gq, 5, none⟩)) rfl (by kernel_rfl) (by kernel_rfl) (by kernel_rfl) (fun _ _ _ h => h) (Or.inl ⟨by kernel_rfl, fun w' hw => ?y12⟩) hS ?_
              case y12 =>
                obtain ⟨s1, s2, s3, s4, s5, s6, s7, s8, s9, s10⟩ := hw
                clear hS
                go_simp
              try simp only [Act.put, List.getElem_toArray, List.getElem_cons_zero, List.getElem_cons_succ, List.setIfInBounds_toArray, List.set_cons_zero, List.set_cons_succ]
              refine wpAnyH_take (i := 13) (v := .int .u64 m5) rfl (by kernel_rfl) (by kernel_rfl) (by kernel_rfl) (fun _ _ _ h => h) (Or.inl ⟨by kernel_rfl, fun w' hw => ?y13⟩) hS ?_
              case y13 =>
                obtain ⟨s1, s2, s3, s4, s5, s6, s7, s8, s9, s10⟩ := hw
                clear hS
                go_simp
              try simp only [Act.put, List.getElem_toArray, List.getElem_cons_zero, List.getElem_cons_succ, List.setIfInBounds_toArray, List.set_cons_zero, List.set_cons_succ]
              refine wpAnyH_take (i := 14) (v := .bool false) rfl (by kernel_rfl) (by kernel_rfl) (by kernel_rfl) (fun _ _ _ h => h) (Or.inl ⟨by kernel_rfl, fun w' hw => ?y14⟩) hS ?_
              case y14 =>
                obtain ⟨s1, s2, s3, s4, s5, s6, s7, s8, s9, s10⟩ := hw
                clear hS
                go_simp
              try simp only [Act.put, List.getElem_toArray, List.getElem_cons_zero, List.getElem_cons_succ, List.setIfInBounds_toArray, List.set_cons_zero, List.set_cons_succ]
              refine wpAnyH_take (i := 15) (v := .bool false) rfl (by kernel_rfl) (by kernel_rfl) (by kernel_rfl) (fun _ _ _ h => h) (Or.inl ⟨by kernel_rfl, fun w' hw => ?y15⟩) hS ?_
              case y15 =>
                obtain ⟨s1, s2, s3, s4, s5, s6, s7, s8, s9, s10⟩ := hw
                clear hS
                go_simp
              try simp only [Act.put, List.getElem_toArray, List.getElem_cons_zero, List.getElem_cons_succ, List.setIfInBounds_toArray, List.set_cons_zero, List.set_cons_succ]
              refine wpAnyH_take (i := 16) (v := .bool false) rfl (by kernel_rfl) (by kernel_rfl) (by kernel_rfl) (fun _ _ _ h => h) (Or.inl ⟨by kernel_rfl, fun w' hw => ?y16⟩) hS ?_
              case y16 =>
                obtain ⟨s1, s2, s3, s4, s5, s6, s7, s8, s9, s10⟩ := hw
                clear hS
                go_simp
              try simp only [Act.put, List.getElem_toArray, List.getElem_cons_zero, List.getElem_cons_succ, List.setIfInBounds_toArray, List.set_cons_zero, List.set_cons_succ]
              refine wpAnyH_take (i := 17) (v := .slice (some ⟨gq, 0, none⟩) 1 cq) rfl (by kernel_rfl) (by kernel_rfl) (by kernel_rfl) (fun _ _ _ h => h) (Or.inl ⟨by kernel_rfl, fun w' hw => ?y17⟩) hS ?_
              case y17 =>
                obtain ⟨s1, s2, s3, s4, s5, s6, s7, s8, s9, s10⟩ := hw
                clear hS
                go_simp
              try simp only [Act.put, List.getElem_toArray, List.getElem_cons_zero, List.getElem_cons_succ, List.setIfInBounds_toArray, List.set_cons_zero, List.set_cons_succ]
              refine wpAnyH_take (i := 18) (v := .pointer (some ⟨gq, 0, none⟩)) rfl (by kernel_rfl) (by kernel_rfl) (by kernel_rfl) (fun _ _ _ h => h) (Or.inl ⟨by kernel_rfl, fun w' hw => ?y18⟩) hS ?_
              case y18 =>
                obtain ⟨s1, s2, s3, s4, s5, s6, s7, s8, s9, s10⟩ := hw
                clear hS
                go_simp
              try simp only [Act.put, List.getElem_toArray, List.getElem_cons_zero, List.getElem_cons_succ, List.setIfInBounds_toArray, List.set_cons_zero, List.set_cons_succ]
              refine wpAnyH_take (i := 19) (v := .agg #[.int .i64 on, .int .i64 oth, .int .i64 m2, .int .i64 (ad : Int), .int .u64 m4, .int .u64 m5, .int .u64 m6]) rfl (by kernel_rfl) (by kernel_rfl) (by kernel_rfl) (fun _ _ _ h => h) (Or.inl ⟨by kernel_rfl, fun w' hw => ?y19⟩) hS ?_
              case y19 =>
                obtain ⟨s1, s2, s3, s4, s5, s6, s7, s8, s9, s10⟩ := hw
                clear hS
                go_simp
              try simp only [Act.put, List.getElem_toArray, List.getElem_cons_zero, List.getElem_cons_succ, List.setIfInBounds_toArray, List.set_cons_zero, List.set_cons_succ]
              refine wpAnyH_ready (rs := [20]) (by kernel_rfl) (by simp) (AllReadyH.cons rfl (fun K hK => ?_) AllReadyH.nil)
              go_simp
              refine (V _).mono ?_
              rintro e w8 ⟨rfl, hB8⟩
              have T8 : Below Wd.heap.size Wd w8 := T7.out.trans (hB8.mono T7.out.size)
              have C7 := CX.out w8 T8
              replace T8 := Mr.hid T8
              refine hK.out _ _ ⟨C7.1.1, C7.1.2.1, C7.1.2.2.1, C7.1.2.2.2.1, C7.1.2.2.2.2.1, C7.1.2.2.2.2.2.1, C7.1.2.2.2.2.2.2, C7.2.1, C7.2.2.1, C7.2.2.2⟩ (fun hS => ?_)
              clear hK K C7
              try simp only [Act.put, List.getElem_toArray, List.getElem_cons_zero, List.getElem_cons_succ, List.setIfInBounds_toArray, List.set_cons_zero, List.set_cons_succ]
              refine wpAnyH_take (i := 21) (v := .bool false) rfl (by kernel_rfl) (by kernel_rfl) (by kernel_rfl) (fun _ _ _ h => h) (Or.inl ⟨by kernel_rfl, fun w' hw => ?y21⟩) hS ?_
              case y21 =>
                obtain ⟨s1, s2, s3, s4, s5, s6, s7, s8, s9, s10⟩ := hw
                clear hS
                go_simp
              try simp only [Act.put, List.getElem_toArray, List.getElem_cons_zero, List.getElem_cons_succ, List.setIfInBounds_toArray, List.set_cons_zero, List.set_cons_succ]
              refine wpAnyH_take (i := 22) (v := .bool false) rfl (by kernel_rfl) (by kernel_rfl) (by kernel_rfl) (fun _ _ _ h => h) (Or.inl ⟨by kernel_rfl, fun w' hw => ?y22⟩) hS ?_
              case y22 =>
                obtain ⟨s1, s2, s3, s4, s5, s6, s7, s8, s9, s10⟩ := hw
                clear hS
                go_simp
              try simp only [Act.put, List.getElem_toArray, List.getElem_cons_zero, List.getElem_cons_succ, List.setIfInBounds_toArray, List.set_cons_zero, List.set_cons_succ]
              refine wpAnyH_take (i := 23) (v := undef) rfl (by kernel_rfl) (by kernel_rfl) (by kernel_rfl) (fun _ _ _ h => h) (Or.inr ⟨by kernel_rfl, rfl⟩) hS ?_
              try simp only [Act.put, List.getElem_toArray, List.getElem_cons_zero, List.getElem_cons_succ, List.setIfInBounds_toArray, List.set_cons_zero, List.set_cons_succ]
              refine wpAnyH_take (i := 24) (v := undef) rfl (by kernel_rfl) (by kernel_rfl) (by kernel_rfl) (fun _ _ _ h => h) (Or.inr ⟨by kernel_rfl, rfl⟩) hS ?_
              try simp only [Act.put, List.getElem_toArray, List.getElem_cons_zero, List.getElem_cons_succ, List.setIfInBounds_toArray, List.set_cons_zero, List.set_cons_succ]
              refine wpAnyH_take (i := 25) (v := undef) rfl (by kernel_rfl) (by kernel_rfl) (by kernel_rfl) (fun _ _ _ h => h) (Or.inr ⟨by kernel_rfl, rfl⟩) hS ?_
              try simp only [Act.put, List.getElem_toArray, List.getElem_cons_zero, List.getElem_cons_succ, List.setIfInBounds_toArray, List.set_cons_zero, List.set_cons_succ]
              refine wpAnyH_take (i := 26) (v := undef) rfl (by kernel_rfl) (by kernel_rfl) (by kernel_rfl) (fun _ _ _ h => h) (Or.inr ⟨by kernel_rfl, rfl⟩) hS ?_
              try simp only [Act.put, List.getElem_toArray, List.getElem_cons_zero, List.getElem_cons_succ, List.setIfInBounds_toArray, List.set_cons_zero, List.set_cons_succ]
              refine wpAnyH_take (i := 27) (v := undef) rfl (by kernel_rfl) (by kernel_rfl) (by kernel_rfl) (fun _ _ _ h => h) (Or.inr ⟨by kernel_rfl, rfl⟩) hS ?_
              try simp only [Act.put, List.getElem_toArray, List.getElem_cons_zero, List.getElem_cons_succ, List.setIfInBounds_toArray, List.set_cons_zero, List.set_cons_succ]
              refine wpAnyH_take (i := 28) (v := undef) rfl (by kernel_rfl) (by kernel_rfl) (by kernel_rfl) (fun _ _ _ h => h) (Or.inr ⟨by kernel_rfl, rfl⟩) hS ?_
              try simp only [Act.put, List.getElem_toArray, List.getElem_cons_zero, List.getElem_cons_succ, List.setIfInBounds_toArray, List.set_cons_zero, List.set_cons_succ]
              refine wpAnyH_take (i := 29) (v := undef) rfl (by kernel_rfl) (by kernel_rfl) (by kernel_rfl) (fun _ _ _ h => h) (Or.inr ⟨by kernel_rfl, rfl⟩) hS ?_
              try simp only [Act.put, List.getElem_toArray, List.getElem_cons_zero, List.getElem_cons_succ, List.setIfInBounds_toArray, List.set_cons_zero, List.set_cons_succ]
              refine wpAnyH_take (i := 30) (v := undef) rfl (by kernel_rfl) (by kernel_rfl) (by kernel_rfl) (fun _ _ _ h => h) (Or.inr ⟨by kernel_rfl, rfl⟩) hS ?_
              try simp only [Act.put, List.getElem_toArray, List.getElem_cons_zero, List.getElem_cons_succ, List.setIfInBounds_toArray, List.set_cons_zero, List.set_cons_succ]
              refine wpAnyH_take (i := 31) (v := undef) rfl (by kernel_rfl) (by kernel_rfl) (by kernel_rfl) (fun _ _ _ h => h) (Or.inr ⟨by kernel_rfl, rfl⟩) hS ?_
              try simp only [Act.put, List.getElem_toArray, List.getElem_cons_zero, List.getElem_cons_succ, List.setIfInBounds_toArray, List.set_cons_zero, List.set_cons_succ]
              refine wpAnyH_take (i := 32) (v := undef) rfl (by kernel_rfl) (by kernel_rfl) (by kernel_rfl) (fun _ _ _ h => h) (Or.inr ⟨by kernel_rfl, rfl⟩) hS ?_
              try simp only [Act.put, List.getElem_toArray, List.getElem_cons_zero, List.getElem_cons_succ, List.setIfInBounds_toArray, List.set_cons_zero, List.set_cons_succ]
              refine wpAnyH_take (i := 33) (v := undef) rfl (by kernel_rfl) (by kernel_rfl) (by kernel_rfl) (fun _ _ _ h => h) (Or.inr ⟨by kernel_rfl, rfl⟩) hS ?_
              try simp only [Act.put, List.getElem_toArray, List.getElem_cons_zero, List.getElem_cons_succ, List.setIfInBounds_toArray, List.set_cons_zero, List.set_cons_succ]
              refine wpAnyH_take (i := 34) (v := .bool false) rfl (by kernel_rfl) (by kernel_rfl) (by kernel_rfl) (fun _ _ _ h => h) (Or.inl ⟨by kernel_rfl, fun w' hw => ?y34⟩) hS ?_
              case y34 =>
                obtain ⟨s1, s2, s3, s4, s5, s6, s7, s8, s9, s10⟩ := hw
                clear hS
                go_simp
              try simp only [Act.put, List.getElem_toArray, List.getElem_cons_zero, List.getElem_cons_succ, List.setIfInBounds_toArray, List.set_cons_zero, List.set_cons_succ]
              refine wpAnyH_take (i := 35) (v := .bool false) rfl (by kernel_rfl) (by kernel_rfl) (by kernel_rfl) (fun _ _ _ h => h) (Or.inl ⟨by kernel_rfl, fun w' hw => ?y35⟩) hS ?_
              case y35 =>
                obtain ⟨s1, s2, s3, s4, s5, s6, s7, s8, s9, s10⟩ := hw
                clear hS
                go_simp
              try simp only [Act.put, List.getElem_toArray, List.getElem_cons_zero, List.getElem_cons_succ, List.setIfInBounds_toArray, List.set_cons_zero, List.set_cons_succ]
              refine wpAnyH_done (by kernel_rfl) ?_ _
              go_wp2
              go_roundg (gk1 - 1)
              case measure => omega
              case rel => exact fin.out _ T8.out
      · as_aux_lemma =>
        have hss : stp ⟨ok, oth, oad, on, oold, ow⟩ on s = s := stp_not _ _ _ (by have := l1.out; simp only; omega)
        rw [hss] at ON hsn
        have d1 : decide (0 ≤ oad) = false ∨ (decide (0 ≤ oad) = true ∧ decide (oad < (ws.length : Int)) = false) := by
          by_cases h0 : 0 ≤ oad
          · exact .inr ⟨by simpa using h0, by simp; omega⟩
          · exact .inl (by simpa using h0)
        have N5 := count_s ON.out.m
        have hll := l2.out
        have hsl : s.lg.length ≤ 5026338869641 := by omega
        replace hss := Mr.hid hss
        replace hll := Mr.hid hll
        replace hti := Mr.hid hti
        clear hth
        rcases d1 with d1 | ⟨d1, d2⟩
        · go_wp2_with (go_at_call 12; refine N5.mono ?_; clear N5; rintro e w' ⟨rfl, hw⟩; obtain rfl := hw.symm)
          go_loopg [12] ws.length (fun k sl wy => ∃ j : Nat, sl = .int .i64 (j : Int) ∧ j + k = ws.length ∧ On w wy S' b s on bm ob (.slice a8 ws.length c8) (.slice a10 ws.length c10) ws.length s.ws s.ws)
          case atStart => exact ⟨0, rfl, by omega, ON.out⟩
          case round =>
            obtain ⟨j, rfl, hj, hO⟩ := hrel
            clear ON y0 y1 y2 y3 y4 y5
            obtain ⟨y0, y1, y2, y3, y4, y5⟩ := bxc.out wr hO.box
            have z1 : bm < wr.heap.size := (Array.getElem?_eq_some_iff.1 hO.box).1
            have sl1 : s.ws.length = ws.length := l1.out
            by_cases hjl : j < ws.length
            · obtain ⟨g8, cc8, hg8, hg8b, hg8l, hq1, hq2⟩ := hO.h8.there (by omega)
              cases hg8
              obtain ⟨g10, cc10, hg10, hg10b, hg10l, hq3, hq4⟩ := hO.h10.there (by omega)
              cases hg10
              unfold maxLen at hq2 hq4
              have x8 := hO.h8.cells (g := g8) rfl j _ (wrd_get s.ws j (by omega))
              have x10 := hO.h10.cells (g := g10) rfl j _ (wrd_get s.ws j (by omega))
              have fin : ∀ nd : Nat, On w (wr.drewN nd) S' b s on bm ob (.slice (some ⟨g8, 0, none⟩) ws.length c8) (.slice (some ⟨g10, 0, none⟩) ws.length c10) ws.length s.ws s.ws := fun nd => hO.below (belowN _ _)
              generalize s.ws[j]?.getD 0 = xa at *
              replace fin := Mr.hid fin
              replace hO := Mr.hid hO
              replace sl1 := Mr.hid sl1
              have v1 : (xa != xa) = false := by simp
              go_upto_region 21 with fail
              go_quiet (fail)
              go_wp2
              go_roundg (gk - 1)
              case measure => omega
              case rel => exact ⟨j + 1, by simp, by omega, fin.out _⟩
            · have nx : MemS wr S' b (runs1 ws (os.take (i + 1))) on := by rw [hsn.out]; exact hO.m
              have nu := hO.u
              have nb := hO.bel
              replace nx := Mr.hid nx
              replace nu := Mr.hid nu
              replace nb := Mr.hid nb
              replace hO := Mr.hid hO
              replace sl1 := Mr.hid sl1
              go_wp2
              go_roundg (gk1 - 1)
              case measure => omega
              case rel => exact ⟨i + 1, S', on, by simp, by omega, nx.out, nu.out, nb.out⟩
        · go_wp2_with (go_at_call 12; refine N5.mono ?_; clear N5; rintro e w' ⟨rfl, hw⟩; obtain rfl := hw.symm)
          go_loopg [12] ws.length (fun k sl wy => ∃ j : Nat, sl = .int .i64 (j : Int) ∧ j + k = ws.length ∧ On w wy S' b s on bm ob (.slice a8 ws.length c8) (.slice a10 ws.length c10) ws.length s.ws s.ws)
          case atStart => exact ⟨0, rfl, by omega, ON.out⟩
          case round =>
            obtain ⟨j, rfl, hj, hO⟩ := hrel
            clear ON y0 y1 y2 y3 y4 y5
            obtain ⟨y0, y1, y2, y3, y4, y5⟩ := bxc.out wr hO.box
            have z1 : bm < wr.heap.size := (Array.getElem?_eq_some_iff.1 hO.box).1
            have sl1 : s.ws.length = ws.length := l1.out
            by_cases hjl : j < ws.length
            · obtain ⟨g8, cc8, hg8, hg8b, hg8l, hq1, hq2⟩ := hO.h8.there (by omega)
              cases hg8
              obtain ⟨g10, cc10, hg10, hg10b, hg10l, hq3, hq4⟩ := hO.h10.there (by omega)
              cases hg10
              unfold maxLen at hq2 hq4
              have x8 := hO.h8.cells (g := g8) rfl j _ (wrd_get s.ws j (by omega))
              have x10 := hO.h10.cells (g := g10) rfl j _ (wrd_get s.ws j (by omega))
              have fin : ∀ nd : Nat, On w (wr.drewN nd) S' b s on bm ob (.slice (some ⟨g8, 0, none⟩) ws.length c8) (.slice (some ⟨g10, 0, none⟩) ws.length c10) ws.length s.ws s.ws := fun nd => hO.below (belowN _ _)
              generalize s.ws[j]?.getD 0 = xa at *
              replace fin := Mr.hid fin
              replace hO := Mr.hid hO
              replace sl1 := Mr.hid sl1
              have v1 : (xa != xa) = false := by simp
              go_upto_region 21 with fail
              go_quiet (fail)
              go_wp2
              go_roundg (gk - 1)
              case measure => omega
              case rel => exact ⟨j + 1, by simp, by omega, fin.out _⟩
            · have nx : MemS wr S' b (runs1 ws (os.take (i + 1))) on := by rw [hsn.out]; exact hO.m
              have nu := hO.u
              have nb := hO.bel
              replace nx := Mr.hid nx
              replace nu := Mr.hid nu
              replace nb := Mr.hid nb
              replace hO := Mr.hid hO
              replace sl1 := Mr.hid sl1
              go_wp2
              go_roundg (gk1 - 1)
              case measure => omega
              case rel => exact ⟨i + 1, S', on, by simp, by omega, nx.out, nu.out, nb.out⟩
    · replace B := Mr.hid B
      go_wp2
      go_ret
      exact ⟨rfl, B.out⟩
end Go.Proofs.Ytilbkminekojcaa.Me
