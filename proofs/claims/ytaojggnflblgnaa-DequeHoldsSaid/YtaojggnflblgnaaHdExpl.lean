/-
  DEQUE: explained.
-/
import Derived.Test.YtaojggnflblgnaaHdOnceB
namespace Go.Proofs.Ytaojggnflblgnaa.Hd
open Go.RowKit Mr Md
set_option linter.unusedVariables false
set_option linter.unusedSimpArgs false
set_option maxRecDepth 100000
theorem atOnce_any (th rm : Int) (vs : List Int) (c : Cq) (hn : vs.length ≤ 100000) : AtO th rm vs c := by
  by_cases h1 : c.op = 90
  · by_cases h2 : rm ≤ (vs.length : Int)
    · exact atOnce_full th rm vs c hn h1 h2
    · exact atOnce_done th rm vs c hn h1 h2
  · by_cases h2 : vs.length = 0
    · exact atOnce_empty th rm vs c hn h1 h2
    · by_cases h0 : c.op = 91
      · exact atOnce_take th rm vs c hn h0 h2
      · intro S v w hv
        obtain ⟨a, cap, rfl, hcap, hcm⟩ := hv.form
        by_cases hc : cap = 1
        · exact atOnce_tail1 th rm vs c hn h1 h0 h2 S a cap w hc hv
        · exact atOnce_tail2 th rm vs c hn h1 h0 h2 S a cap w hc hv
theorem atO_len {rm : Int} {vs : List Int} (c : Cq) (hr : rm ≤ 256) (h : vs.length ≤ 256) : (atO rm vs c).1.length ≤ 256 := by
  unfold atO
  split
  · exact h
  · split
    · rename_i h1 h2
      have : ¬ rm ≤ (vs.length : Int) := fun h3 => h1 ⟨h2, h3⟩
      simp only [List.length_append, List.length_cons, List.length_nil]
      omega
    · split
      · simp
      · split
        · simp only [List.length_take]; omega
        · simp only [List.length_drop]; omega
theorem expl_step (rm : Int) (vs : List Int) (l : List Cq) (i : Nat) (x : Cq) (hx : l[i]? = some x) : expl rm vs (l.drop i) = (okA x (atO rm vs x).2 && expl rm (atO rm vs x).1 (l.drop (i + 1))) := by
  obtain ⟨h1, rfl⟩ := List.getElem?_eq_some_iff.1 hx
  rw [List.drop_eq_getElem_cons h1, expl]
theorem fr_cell {W W' : World} {S : Nat → Prop} (h : Fr W W' S) {b j : Nat} (hl : b < W.heap.size) (hS : ¬ S b) : W'.cell? ⟨b, j, none⟩ = W.cell? ⟨b, j, none⟩ := by
  unfold World.cell?
  rw [show (⟨b, j, none⟩ : Addr).block = b from rfl, h.block b hl hS]
set_option maxHeartbeats 16000000 in
theorem explained_any {T : Nat → Prop} (th rm : Int) (hr : rm ≤ 256) (l : List Cq) (a : Option Addr) (cap : Nat) (w : World) (hv : Sl w T 9 (.slice a l.length cap) l.length (cqs l)) (hn : l.length < 1152921504606846976) :
    Calls Try.prog 14 #[Dq.dV th rm, .slice a l.length cap] w fun e w' => e = .returned (.bool (expl rm [] l)) ∧ Below w.heap.size w w' := by
  obtain ⟨n, hnn⟩ : ∃ n, n = l.length := ⟨_, rfl⟩
  obtain ⟨r, hrr⟩ : ∃ r, r = expl rm [] l := ⟨_, rfl⟩
  have hv0 := Mr.hid hv
  rw [← hnn] at hn ⊢
  rw [← hrr]
  clear hv
  have B0 := Dq.bxd_below w th rm
  have b0 := Dq.bxd_0 w th rm
  have c0 := Dq.cell_blk b0 0
  have c1 := Dq.cell_blk b0 1
  have lb := (Array.getElem?_eq_some_iff.1 b0).1
  replace hnn := Mr.hid hnn
  replace hrr := Mr.hid hrr
  have B0' := Mr.hid B0
  clear B0 b0
  unfold Dq.dV
  go_enter Try.func14, Try.ntmps14
  go_upto_region 1 with fail
  generalize w.alloc (.cells #[.int .i64 th, .int .i64 rm] 23) = w1 at *
  go_wp2
  go_loopg [5, 12] n (fun gk s5 s12 wr => ∃ (i : Nat) (vs : List Int), s12 = .int .i64 (i : Int) ∧ (i + gk = n) ∧ vs.length ≤ 256 ∧ Own wr (fun k => w1.heap.size ≤ k) 3 1 s5 vs.length (ints vs) ∧ Hid (expl rm vs (l.drop i) = expl rm [] l) ∧ Below w1.heap.size w1 wr)
  case atStart => exact ⟨0, [], rfl, by omega, by simp, Own.zero _ _ _ _ _, Mr.hid rfl, Below.refl _ _⟩
  case round =>
    obtain ⟨i, vs, rfl, hi, hvl, hO, hz, hB⟩ := hrel
    by_cases hlt : i < n
    · have q3 : (i : Int) < (n : Int) := by omega
      obtain ⟨x, hx⟩ : ∃ x, l[i]? = some x := ⟨_, List.getElem?_eq_getElem (by rw [← hnn.out]; omega)⟩
      obtain ⟨b, o, rfl, _, C1⟩ := cqx_at hv0.out hx
      have D1 := C1.below (B0'.out.trans (hB.mono B0'.out.size))
      have hs := expl_step rm vs l i x hx
      rw [hs] at hz
      clear hs hx C1
      have hAl := atO_len x hr hvl
      obtain ⟨av, cv, rfl, hcv, hcm⟩ := hO.form
      have AO : ∀ W, Own W (fun k => w1.heap.size ≤ k ∧ k < wr.heap.size) 3 1 (.slice av vs.length cv) vs.length (ints vs) → Calls Try.prog 25 #[Dq.dV th rm, .slice av vs.length cv, x.val] W fun e w' => ∃ v', e = .returned (.tuple #[v', anV (atO rm vs x).2.1 (atO rm vs x).2.2]) ∧ Own w' (fun k => (w1.heap.size ≤ k ∧ k < wr.heap.size) ∨ W.heap.size ≤ k) 3 1 v' (atO rm vs x).1.length (ints (atO rm vs x).1) ∧ Fr W w' (fun k => w1.heap.size ≤ k ∧ k < wr.heap.size) :=
        fun W hW => atOnce_any th rm vs x (by omega) _ _ W hW
      unfold anV Dq.dV Cq.val at AO
      have hok : okA x (atO rm vs x).2 = okA x ((atO rm vs x).2.1, (atO rm vs x).2.2) := rfl
      rw [hok] at hz
      clear hok
      generalize (atO rm vs x).1 = vs' at *
      generalize (atO rm vs x).2.1 = kk at *
      generalize (atO rm vs x).2.2 = xx at *
      obtain ⟨l1, x0, x1, x2, x3, x4, x5, x6, x7, x8⟩ := D1
      have k0 := (hB.cell (p := ⟨w.heap.size, 0, none⟩) lb).trans c0
      have k1 := (hB.cell (p := ⟨w.heap.size, 1, none⟩) lb).trans c1
      have h1s := hB.size
      have hO' := Mr.hid (own_inb hO)
      have hB' := Mr.hid hB
      replace hAl := Mr.hid hAl
      replace AO := Mr.hid AO
      clear hO hB hcv hcm
      go_upto_region 5 with fail
      have cq := cqO_cells (new_at wr (cqO x) wr.heap.size rfl)
      have BQ := b1b (w := wr) (cqO x)
      have sQ : (wr.alloc (cqO x)).heap.size = wr.heap.size + 1 := by simp
      unfold cqO at cq BQ sQ
      generalize wr.alloc _ = wq at *
      clear x0 x1 x2 x3 x4 x5 x6 x7 x8
      replace k0 := (BQ.cell (p := ⟨w.heap.size, 0, none⟩) (by show w.heap.size < _; omega)).trans k0
      replace k1 := (BQ.cell (p := ⟨w.heap.size, 1, none⟩) (by show w.heap.size < _; omega)).trans k1
      obtain ⟨l2, x0, x1, x2, x3, x4, x5, x6, x7, x8⟩ := cq
      simp only [Nat.zero_add] at x1 x2 x3 x4 x5 x6 x7 x8
      replace BQ := Mr.hid BQ
      replace sQ := Mr.hid sQ
      obtain ⟨a0, a1, a2, a3, a4, a5, a6, a7, a8⟩ := x
      simp only at *
      go_upto_region 6 with (go_at_call 25; refine (AO.out _ (hO'.out.below BQ.out)).mono ?_; rintro e w6 ⟨v6, rfl, hO6, hF6⟩)
      have nS : ¬ (w1.heap.size ≤ wr.heap.size ∧ wr.heap.size < wr.heap.size) := by omega
      have y5 := (fr_cell (j := 5) hF6 l2 nS).trans x5
      have y7 := (fr_cell (j := 7) hF6 l2 nS).trans x7
      have y8 := (fr_cell (j := 8) hF6 l2 nS).trans x8
      have s6 := hF6.size
      have l6 : wr.heap.size < w6.heap.size := by omega
      have BA := b1b (w := w6) (anO kk xx)
      have hA := new_at w6 (anO kk xx) w6.heap.size rfl
      unfold anO at BA hA
      replace y5 := (BA.cell (p := ⟨wr.heap.size, _, none⟩) l6).trans y5
      replace y7 := (BA.cell (p := ⟨wr.heap.size, _, none⟩) l6).trans y7
      replace y8 := (BA.cell (p := ⟨wr.heap.size, _, none⟩) l6).trans y8
      have z0 := Dq.cell_blk hA 0
      have z1 := Dq.cell_blk hA 1
      generalize w6.alloc _ = w7 at *
      clear x0 x1 x2 x3 x4 x5 x6 x7 x8 k0 k1
      have hB7 : Hid (Below w1.heap.size w1 w7) := by
        have q := hB'.out
        have q2 := q.trans (BQ.out.mono q.size)
        refine Mr.hid ((q2.trans ?_).trans (BA.mono (by omega)))
        exact hF6.below (fun k hk => hk.1) (by have := sQ.out; omega)
      have hO7 := Mr.hid ((hO6.below BA).mono (T := fun k => w1.heap.size ≤ k) (fun k hk => by
        have := sQ.out
        rcases hk with hk | hk <;> omega))
      clear hO6 hF6 BA hA
      by_cases h5 : a5 = -1
      · have e5 : (a5 != -1) = false := by simp [h5]
        have hz' : Hid (expl rm vs' (List.drop (i + 1) l) = expl rm [] l) := Mr.hid (by have := hz.out; simpa [okA, h5] using this)
        clear hz
        go_wp2
        go_roundg (gk - 1)
        case measure => omega
        case rel => exact ⟨i + 1, vs', by simp, by omega, hAl.out, hO7.out, hz', hB7.out⟩
      · have e5 : (a5 != -1) = true := by simp [h5]
        by_cases h7 : a7 = kk
        · have e7 : (a7 == kk) = true := by simp [h7]
          have e7' : (a7 != kk) = false := by simp [h7]
          by_cases h8 : a8 = xx
          · have e8 : (a8 == xx) = true := by simp [h8]
            have e8' : (a8 != xx) = false := by simp [h8]
            have hz' : Hid (expl rm vs' (List.drop (i + 1) l) = expl rm [] l) := Mr.hid (by have := hz.out; simpa [okA, h5, h7, h8] using this)
            clear hz
            go_wp2
            go_roundg (gk - 1)
            case measure => omega
            case rel => exact ⟨i + 1, vs', by simp, by omega, hAl.out, hO7.out, hz', hB7.out⟩
          · have e8 : (a8 == xx) = false := by simp [h8]
            have e8' : (a8 != xx) = true := by simp [h8]
            have hz' : Hid (false = expl rm [] l) := Mr.hid (by have := hz.out; simpa [okA, h5, h7, h8] using this)
            clear hz
            go_wp2
            go_ret
            exact ⟨by rw [hrr.out, ← hz'.out]; rfl, B0'.out.trans (hB7.out.mono B0'.out.size)⟩
        · have e7 : (a7 == kk) = false := by simp [h7]
          have e7' : (a7 != kk) = true := by simp [h7]
          have hz' : Hid (false = expl rm [] l) := Mr.hid (by have := hz.out; simpa [okA, h5, h7] using this)
          clear hz
          go_wp2
          go_ret
          exact ⟨by rw [hrr.out, ← hz'.out]; rfl, B0'.out.trans (hB7.out.mono B0'.out.size)⟩
    · have q1 : decide ((i : Int) < (n : Int)) = false := decide_eq_false (by omega)
      have q2 : decide (i < n) = false := decide_eq_false hlt
      go_wp2
      go_ret
      refine ⟨?_, B0'.out.trans (hB.mono B0'.out.size)⟩
      rw [hrr.out, ← hz.out, List.drop_of_length_le (by rw [← hnn.out]; omega)]
      rfl
end Go.Proofs.Ytaojggnflblgnaa.Hd
