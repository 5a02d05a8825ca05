import Derived.Test.YtedaoljmcfbbpaaGreatJ30
/-
  DEQUE: known, untimely.
-/
namespace Go.Proofs.YtedaoljmcfbbpaaGreat.Hd
open Go.RowKit Mr Md
set_option linter.unusedVariables false
set_option linter.unusedSimpArgs false
set_option maxRecDepth 100000
theorem b2b {w : World} (x y : Obj) : Below w.heap.size w ((w.alloc x).alloc y) := ((Below.refl _ _).alloc (Nat.le_refl _) _).alloc (by simp) _
theorem b1b {w : World} (x : Obj) : Below w.heap.size w (w.alloc x) := (Below.refl _ _).alloc (Nat.le_refl _) _
set_option maxHeartbeats 4000000 in
theorem known_any (th rm : Int) (c : Cq) (w : World) : Calls Tryz.prog 26 #[Dq.dV th rm, c.val] w fun e w' => e = .returned (.bool (kn th c)) ∧ Below w.heap.size w w' := by
  obtain ⟨a0, a1, a2, a3, a4, a5, a6, a7, a8⟩ := c
  unfold Cq.val Dq.dV
  simp only
  by_cases h0 : a1 = 90
  · have h0b : (a1 == 90) = true := by simp [h0]
    have hk : kn th ⟨a0, a1, a2, a3, a4, a5, a6, a7, a8⟩ = (a0 == 0) := by simp [kn, h0]; rfl
    rw [hk]
    clear hk h0
    go_enter Tryz.func26, Tryz.ntmps26
    go_wp2
    go_ret
    exact ⟨rfl, b2b _ _⟩
  · have h0b : (a1 == 90) = false := by simp [h0]
    by_cases h1 : a1 = 91
    · have h1b : (a1 == 91) = true := by simp [h1]
      have hk : kn th ⟨a0, a1, a2, a3, a4, a5, a6, a7, a8⟩ = (a0 == 0) := by simp [kn, h1]; rfl
      rw [hk]
      clear hk h1 h0
      go_enter Tryz.func26, Tryz.ntmps26
      go_wp2
      go_ret
      exact ⟨rfl, b2b _ _⟩
    · have h1b : (a1 == 91) = false := by simp [h1]
      by_cases h2 : a1 = 92
      · have h2b : (a1 == 92) = true := by simp [h2]
        by_cases h3 : 0 ≤ a0
        · have h3b : decide (0 ≤ a0) = true := by simp [h3]
          have hk : kn th ⟨a0, a1, a2, a3, a4, a5, a6, a7, a8⟩ = decide (a0 < th) := by simp [kn, h2, h3]
          rw [hk]
          clear hk h1 h0 h2
          go_enter Tryz.func26, Tryz.ntmps26
          go_wp2
          go_ret
          exact ⟨rfl, b2b _ _⟩
        · have h3b : decide (0 ≤ a0) = false := by simp [h3]
          have hk : kn th ⟨a0, a1, a2, a3, a4, a5, a6, a7, a8⟩ = false := by simp [kn, h2, h3]
          rw [hk]
          clear hk h1 h0 h2
          go_enter Tryz.func26, Tryz.ntmps26
          go_wp2
          go_ret
          exact ⟨rfl, b2b _ _⟩
      · have h2b : (a1 == 92) = false := by simp [h2]
        have hk : kn th ⟨a0, a1, a2, a3, a4, a5, a6, a7, a8⟩ = false := by simp [kn, h0, h1, h2]
        rw [hk]
        clear hk h1 h0 h2
        go_enter Tryz.func26, Tryz.ntmps26
        go_wp2
        go_ret
        exact ⟨rfl, b2b _ _⟩
set_option maxHeartbeats 4000000 in
theorem untimely_any (c : Cq) (w : World) : Calls Tryz.prog 17 #[c.val] w fun e w' => e = .returned (.bool (unt c)) ∧ Below w.heap.size w w' := by
  obtain ⟨a0, a1, a2, a3, a4, a5, a6, a7, a8⟩ := c
  unfold Cq.val
  simp only
  by_cases h0 : a6 ≤ a4
  · have h0b : decide (a6 ≤ a4) = true := by simp [h0]
    have hk : unt ⟨a0, a1, a2, a3, a4, a5, a6, a7, a8⟩ = true := by simp [unt, h0]
    rw [hk]
    clear hk
    go_enter Tryz.func17, Tryz.ntmps17
    go_wp2
    go_ret
    exact ⟨rfl, b1b _⟩
  · have h0b : decide (a6 ≤ a4) = false := by simp [h0]
    by_cases h1 : a5 = -1
    · have h1b : (a5 != -1) = false := by simp [h1]
      have hk : unt ⟨a0, a1, a2, a3, a4, a5, a6, a7, a8⟩ = false := by simp [unt, h0, h1]
      rw [hk]
      clear hk
      go_enter Tryz.func17, Tryz.ntmps17
      go_wp2
      go_ret
      exact ⟨rfl, b1b _⟩
    · have h1b : (a5 != -1) = true := by simp [h1]
      have hk : unt ⟨a0, a1, a2, a3, a4, a5, a6, a7, a8⟩ = decide (a5 < a6) := by simp [unt, h0, h1]
      rw [hk]
      clear hk
      go_enter Tryz.func17, Tryz.ntmps17
      go_wp2
      go_ret
      exact ⟨rfl, b1b _⟩
end Go.Proofs.YtedaoljmcfbbpaaGreat.Hd
/-
  DEQUE: apart.
-/
namespace Go.Proofs.YtedaoljmcfbbpaaGreat.Hd
open Go.RowKit Mr Md
set_option linter.unusedVariables false
set_option linter.unusedSimpArgs false
set_option maxRecDepth 100000
theorem CqAt.drew {w : World} {b o : Nat} {a : Cq} (h : CqAt w b o a) : CqAt w.drew b o a := ⟨h.lt, h.c0, h.c1, h.c2, h.c3, h.c4, h.c5, h.c6, h.c7, h.c8⟩
theorem apR_step (l : List Cq) (j : Nat) (x y : Cq) (hx : l[j]? = some x) (hy : l[j + 1]? = some y) : apR (l.drop j) = (apc x y && apR (l.drop (j + 1))) := by
  obtain ⟨h1, rfl⟩ := List.getElem?_eq_some_iff.1 hx
  obtain ⟨h2, rfl⟩ := List.getElem?_eq_some_iff.1 hy
  rw [List.drop_eq_getElem_cons h1, List.drop_eq_getElem_cons h2, apR]
theorem apR_last (l : List Cq) (j : Nat) (h : l.length ≤ j + 1) : apR (l.drop j) = true := by
  have : (l.drop j).length ≤ 1 := by simp; omega
  match hd : l.drop j with
  | [] => rfl
  | [_] => rfl
  | a :: b :: k => rw [hd] at this; simp at this
theorem sl_pos {W : World} {T : Nat → Prop} {size : Nat} {v : Value} {n : Nat} {xs : List Value} (h : Sl W T size v n xs) (hn : 0 < n) : ∃ b o cap, v = .slice (some ⟨b, o, none⟩) n cap ∧ b < W.heap.size := by
  obtain ⟨b, o, cap, hv, _, _, hl, _⟩ := h.there hn
  exact ⟨b, o, cap, hv, hl⟩
set_option maxHeartbeats 16000000 in
theorem apart_any {T : Nat → Prop} (l : List Cq) (a : Option Addr) (cap : Nat) (w : World) (hv : Sl w T 9 (.slice a l.length cap) l.length (cqs l)) (hn : l.length < 1152921504606846976) :
    Calls Tryz.prog 29 #[.slice a l.length cap] w fun e w' => e = .returned (.bool (apR l)) ∧ Below w.heap.size w w' := by
  obtain ⟨n, hnn⟩ : ∃ n, n = l.length := ⟨_, rfl⟩
  obtain ⟨r, hr⟩ : ∃ r, r = apR l := ⟨_, rfl⟩
  have hv0 := Mr.hid hv
  rw [← hnn] at hn ⊢
  rw [← hr]
  clear hv
  replace hnn := Mr.hid hnn
  replace hr := Mr.hid hr
  go_enter Tryz.func29, Tryz.ntmps29
  go_wp2
  go_loopg [3] n (fun gk s3 wr => ∃ j : Nat, s3 = .int .i64 ((j : Int) + 1) ∧ (j + gk = n) ∧ Hid (apR (l.drop j) = apR l) ∧ Below w.heap.size w wr)
  case atStart => exact ⟨0, rfl, by omega, Mr.hid rfl, Below.refl _ _⟩
  case round =>
    obtain ⟨j, rfl, hj, hz, hB⟩ := hrel
    by_cases hlt : j + 1 < n
    · have q0 : decide ((j : Int) + 1 < (n : Int)) = true := decide_eq_true (by omega)
      have q3 : (j : Int) + 1 < (n : Int) := by omega
      obtain ⟨x, hx⟩ : ∃ x, l[j]? = some x := ⟨_, List.getElem?_eq_getElem (by rw [← hnn.out]; omega)⟩
      obtain ⟨y, hy⟩ : ∃ x, l[j + 1]? = some x := ⟨_, List.getElem?_eq_getElem (by rw [← hnn.out]; omega)⟩
      obtain ⟨b, o, rfl, _, C1⟩ := cqx_at hv0.out hx
      obtain ⟨b', o', e', _, C2⟩ := cqx_at hv0.out hy
      cases e'
      have D1 := C1.below hB
      have D2 := C2.below hB
      have hs := apR_step l j x y hx hy
      rw [hs] at hz
      clear hs hx hy C1 C2
      have q4 : (0 : Int) ≤ (j : Int) := by omega
      have q5 : (j : Int) < (n : Int) := by omega
      have q6 : (0 : Int) ≤ (j : Int) + 1 := by omega
      have q7 : ((j : Int) + 1).toNat = j + 1 := by omega
      have q8 : wrap64 ((j : Int) + 1 - 1) = (j : Int) := by rw [Int.add_sub_cancel]; simp only [wrap64]; omega
      obtain ⟨l1, x0, x1, x2, x3, x4, x5, x6, x7, x8⟩ := D1
      obtain ⟨l2, y0, y1, y2, y3, y4, y5, y6, y7, y8⟩ := D2
      have hk : decide (x.pt = y.pt) = (x.pt == y.pt) := rfl
      go_wp2
      go_cut [4, 5] from 7 to 38 (fun s4 s5 wx => ∃ p q : Nat, s4 = .pointer (some ⟨p, 0, none⟩) ∧ s5 = .pointer (some ⟨q, 0, none⟩) ∧ CqAt wx p 0 x ∧ CqAt wx q 0 y ∧ Below w.heap.size w wx)
      case first =>
        go_region
        · go_wp2
          go_meet
          case rel => exact ⟨_, _, rfl, rfl, (cqO_cells (old_at (new_at wr (cqO x) _ rfl) (cqO y))).drew, (cqO_cells (new_at (wr.alloc (cqO x)) (cqO y) _ (by simp))).drew, (hB.trans ((b2b (cqO x) (cqO y)).mono hB.size)).drew⟩
        · go_wp2
          go_meet
          case rel => exact ⟨_, _, rfl, rfl, (cqO_cells (new_at (wr.alloc (cqO y)) (cqO x) _ (by simp))).drew, (cqO_cells (old_at (new_at wr (cqO y) _ rfl) (cqO x))).drew, (hB.trans ((b2b (cqO y) (cqO x)).mono hB.size)).drew⟩
      case rest =>
        obtain ⟨p, q, rfl, rfl, P, Q, hBc⟩ := hcut
        clear x0 x1 x2 x3 x4 x5 x6 x7 x8 y0 y1 y2 y3 y4 y5 y6 y7 y8
        have f1 := P.c1
        have f6 := P.c6
        have g1 := Q.c1
        have g6 := Q.c6
        simp only [Nat.zero_add] at f1 f6 g1 g6
        clear P Q
        obtain ⟨x0, x1, x2, x3, x4, x5, x6, x7, x8⟩ := x
        obtain ⟨y0, y1, y2, y3, y4, y5, y6, y7, y8⟩ := y
        simp only at *
        by_cases hpe : x6 = y6
        · have e1 : (x6 == y6) = true := by simp [hpe]
          by_cases ho : x1 = 92
          · have e2 : (x1 == 92) = true := by simp [ho]
            by_cases ht : y1 = 91
            · have e3 : (y1 == 91) = true := by simp [ht]
              have hz' : Hid (apR (List.drop (j + 1) l) = apR l) := Mr.hid (by have := hz.out; simpa [apc, hpe, ho, ht] using this)
              clear hz
              go_wp2
              go_roundg (gk - 1)
              case measure => omega
              case rel => exact ⟨j + 1, by simp, by omega, hz', hBc⟩
            · have e3 : (y1 == 91) = false := by simp [ht]
              have hz' : Hid (false = apR l) := Mr.hid (by have := hz.out; simpa [apc, hpe, ho, ht] using this)
              clear hz
              go_wp2
              go_ret
              exact ⟨by rw [hr.out, ← hz'.out]; rfl, hBc⟩
          · have e2 : (x1 == 92) = false := by simp [ho]
            have hz' : Hid (false = apR l) := Mr.hid (by have := hz.out; simpa [apc, hpe, ho] using this)
            clear hz
            go_wp2
            go_ret
            exact ⟨by rw [hr.out, ← hz'.out]; rfl, hBc⟩
        · have e1 : (x6 == y6) = false := by simp [hpe]
          have hz' : Hid (apR (List.drop (j + 1) l) = apR l) := Mr.hid (by have := hz.out; simpa [apc, hpe] using this)
          clear hz
          by_cases ho : x1 = 92
          · have e2 : (x1 == 92) = true := by simp [ho]
            go_wp2
            go_roundg (gk - 1)
            case measure => omega
            case rel => exact ⟨j + 1, by simp, by omega, hz', hBc⟩
          · have e2 : (x1 == 92) = false := by simp [ho]
            go_wp2
            go_roundg (gk - 1)
            case measure => omega
            case rel => exact ⟨j + 1, by simp, by omega, hz', hBc⟩
    · have q0 : decide ((j : Int) + 1 < (n : Int)) = false := decide_eq_false (by omega)
      go_wp2
      go_ret
      exact ⟨by rw [hr.out, ← hz.out, apR_last l j (by rw [← hnn.out]; omega)]; rfl, hB⟩
end Go.Proofs.YtedaoljmcfbbpaaGreat.Hd
