import Derived.Test.YtedaoljmcfbbpaaGreatJ36
import Derived.Test.YtedaoljmcfbbpaaGreatJ38
import Derived.Test.YtedaoljmcfbbpaaGreatJ39
/-
  DEQUE: slices.ContainsFunc of untimely.
-/
namespace Go.Proofs.YtedaoljmcfbbpaaGreat.Hd
open Go.RowKit Mr Md
set_option linter.unusedVariables false
set_option linter.unusedSimpArgs false
set_option maxRecDepth 100000
theorem any_step (l : List Cq) (i : Nat) (x : Cq) (hx : l[i]? = some x) : (l.drop i).any unt = (unt x || (l.drop (i + 1)).any unt) := by
  obtain ⟨h1, rfl⟩ := List.getElem?_eq_some_iff.1 hx
  rw [List.drop_eq_getElem_cons h1, List.any_cons]
set_option maxHeartbeats 16000000 in
theorem indexF_any {T : Nat → Prop} (l : List Cq) (a : Option Addr) (cap : Nat) (w : World) (hv : Sl w T 9 (.slice a l.length cap) l.length (cqs l)) (hn : l.length < 1152921504606846976) :
    Calls Tryz.prog 30 #[.slice a l.length cap, .func (.func 17) #[] #[]] w fun e w' => ∃ x : Int, e = .returned (.int .i64 x) ∧ decide (0 ≤ x) = l.any unt ∧ Below w.heap.size w w' := by
  obtain ⟨n, hnn⟩ : ∃ n, n = l.length := ⟨_, rfl⟩
  obtain ⟨r, hr⟩ : ∃ r, r = l.any unt := ⟨_, rfl⟩
  have hv0 := Mr.hid hv
  rw [← hnn] at hn ⊢
  rw [← hr]
  clear hv
  replace hnn := Mr.hid hnn
  replace hr := Mr.hid hr
  have UN := Mr.hid untimely_any
  go_enter Tryz.func30, Tryz.ntmps30
  go_wp2
  go_loopg [8] n (fun gk s8 wr => ∃ i : Nat, s8 = .int .i64 (i : Int) ∧ (i + gk = n) ∧ Hid ((l.drop i).any unt = l.any unt) ∧ Below w.heap.size w wr)
  case atStart => exact ⟨0, rfl, by omega, Mr.hid rfl, Below.refl _ _⟩
  case round =>
    obtain ⟨i, rfl, hi, hz, hB⟩ := hrel
    by_cases hlt : i < n
    · have q3 : (i : Int) < (n : Int) := by omega
      obtain ⟨x, hx⟩ : ∃ x, l[i]? = some x := ⟨_, List.getElem?_eq_getElem (by rw [← hnn.out]; omega)⟩
      obtain ⟨b, o, rfl, _, C1⟩ := cqx_at hv0.out hx
      have D1 := C1.below hB
      have hs := any_step l i x hx
      rw [hs] at hz
      clear hs hx C1
      obtain ⟨l1, x0, x1, x2, x3, x4, x5, x6, x7, x8⟩ := D1
      have U := UN.out x
      unfold Cq.val at U
      cases hu : unt x with
      | true =>
        rw [hu] at U hz
        replace U := Mr.hid U
        go_wp2_with (go_at_call 17; refine (U.out _).mono ?_; rintro e w5 ⟨rfl, hB5⟩)
        go_ret
        exact ⟨_, rfl, by rw [hr.out, ← hz.out]; simp, hB.trans (hB5.mono hB.size)⟩
      | false =>
        rw [hu] at U hz
        replace U := Mr.hid U
        go_wp2_with (go_at_call 17; refine (U.out _).mono ?_; rintro e w5 ⟨rfl, hB5⟩)
        go_roundg (gk - 1)
        case measure => omega
        case rel => exact ⟨i + 1, by simp, by omega, Mr.hid (by have := hz.out; simpa using this), hB.trans (hB5.mono hB.size)⟩
    · have q1 : decide ((i : Int) < (n : Int)) = false := decide_eq_false (by omega)
      have q2 : decide (i < n) = false := decide_eq_false hlt
      go_wp2
      go_ret
      refine ⟨_, rfl, ?_, hB⟩
      rw [hr.out, ← hz.out, List.drop_of_length_le (by rw [← hnn.out]; omega)]
      rfl
set_option maxHeartbeats 4000000 in
theorem containsF_any {T : Nat → Prop} (l : List Cq) (a : Option Addr) (cap : Nat) (w : World) (hv : Sl w T 9 (.slice a l.length cap) l.length (cqs l)) (hn : l.length < 1152921504606846976) :
    Calls Tryz.prog 16 #[.slice a l.length cap, .func (.func 17) #[] #[]] w fun e w' => e = .returned (.bool (l.any unt)) ∧ Below w.heap.size w w' := by
  have IF := Mr.hid (indexF_any l a cap w hv hn)
  generalize l.any unt = r at *
  generalize l.length = n at *
  clear hv hn
  go_enter Tryz.func16, Tryz.ntmps16
  go_wp2_with (go_at_call 30; refine (IF.out).mono ?_; rintro e w5 ⟨x, rfl, hx, hB5⟩)
  go_ret
  exact ⟨by rw [← hx]; rfl, hB5⟩
end Go.Proofs.YtedaoljmcfbbpaaGreat.Hd
/-
  DEQUE: Holds.
-/
namespace Go.Proofs.YtedaoljmcfbbpaaGreat.Hd
open Go.RowKit Mr Md
set_option linter.unusedVariables false
set_option linter.unusedSimpArgs false
set_option maxRecDepth 100000
theorem pE_in {th rm : Int} {ws : List Int} {cs L : List Cq} (h : pE th rm ws cs L = 0) : Dq.dqB th rm = true ∧ cs.all (kn th) = true ∧ apR L = true := by
  unfold pE at h
  split at h
  · rename_i h1
    split at h
    · rename_i h2
      rw [Bool.and_eq_true] at h2
      refine ⟨?_, h2.1, h2.2⟩
      cases hd : Dq.dqB th rm with
      | true => rfl
      | false => unfold Dq.lfR at h1; rw [if_pos hd] at h1; exact absurd h1 (by decide)
    · exact absurd h (by decide)
  · rename_i h1; exact absurd h h1
/-- What Holds answers. -/
def hB (th rm : Int) (ws : List Int) (cs L : List Cq) : Bool := decide (pE th rm ws cs L = 0) && (!(L.any unt) && expl rm [] L)
set_option maxHeartbeats 16000000 in
theorem holds_any {T : Nat → Prop} (th rm : Int) (ws : List Int) (cs L : List Cq) (hP : L.Perm (pts cs)) (hS : L.Pairwise (fun a b => ¬ Cq.lt b a)) (a : Option Addr) (cap : Nat) (a3 : Option Addr) (n3 c3 : Nat) (v1 v2 : Value) (w : World)
    (hv : Sl w T 9 (.slice a cs.length cap) cs.length (cqs cs)) (hw : Dq.WdAt w a3 n3 ws) (hzn : cs.length * 72 ≤ 140737488351232) :
    Calls Tryz.prog 7 #[Dq.dV th rm, rnV (.slice a cs.length cap) v1 v2 (.slice a3 n3 c3)] w fun e w' => e = .returned (.tuple #[.bool (hB th rm ws cs L), .int .i64 (pE th rm ws cs L)]) ∧ Below w.heap.size w w' := by
  have hLn : L.length < 1152921504606846976 := by have h1 := hP.length_eq; have h2 := pts_len cs; omega
  have B0 := (b1b (w := w) (.cells #[.int .i64 th, .int .i64 rm] 23 (0, 0))).alloc (by simp) (.cells #[.slice a cs.length cap, v1, v2, .slice a3 n3 c3] 32 (0, 0))
  have b0 := old_at (new_at w (.cells #[.int .i64 th, .int .i64 rm] 23 (0, 0)) w.heap.size rfl) (.cells #[.slice a cs.length cap, v1, v2, .slice a3 n3 c3] 32 (0, 0))
  have b1 := new_at (w.alloc (.cells #[.int .i64 th, .int .i64 rm] 23 (0, 0))) (.cells #[.slice a cs.length cap, v1, v2, .slice a3 n3 c3] 32 (0, 0)) (w.heap.size + 1) (by simp)
  have c0 := Dq.cell_blk b0 0
  have c1 := Dq.cell_blk b0 1
  have d0 := Dq.cell_blk b1 0
  have d1 := Dq.cell_blk b1 1
  have d2 := Dq.cell_blk b1 2
  have d3 := Dq.cell_blk b1 3
  have lb := (Array.getElem?_eq_some_iff.1 b1).1
  have PT : Hid (∀ (W : World), Below w.heap.size w W → Calls Tryz.prog 15 #[Dq.dV th rm, rnV (.slice a cs.length cap) v1 v2 (.slice a3 n3 c3)] W fun e w' => ∃ va vn vc, e = .returned (.tuple #[.slice va vn vc, .int .i64 (pE th rm ws cs L)]) ∧ Below W.heap.size W w' ∧ (pE th rm ws cs L = 0 → vn = L.length ∧ Sl w' (fun _ => True) 9 (.slice va L.length vc) L.length (cqs L))) :=
    fun W h => pointed_any th rm ws cs L hP hS a cap a3 n3 c3 v1 v2 W (hv.below h) (hw.below h) hzn
  have EX : Hid (pE th rm ws cs L = 0 → ∀ (W : World) (va : Option Addr) (vc : Nat), Sl W (fun _ => True) 9 (.slice va L.length vc) L.length (cqs L) → Calls Tryz.prog 18 #[Dq.dV th rm, .slice va L.length vc] W fun e w' => e = .returned (.bool (expl rm [] L)) ∧ Below W.heap.size W w') :=
    fun h W va vc hs => explained_any th rm (Dq.dqB_in (pE_in h).1).2.2.2 L va vc W hs hLn
  have CF : Hid (∀ (W : World) (va : Option Addr) (vc : Nat), Sl W (fun _ => True) 9 (.slice va L.length vc) L.length (cqs L) → Calls Tryz.prog 16 #[.slice va L.length vc, .func (.func 17) #[] #[]] W fun e w' => e = .returned (.bool (L.any unt)) ∧ Below W.heap.size W w') :=
    fun W va vc hs => containsF_any L va vc W hs hLn
  have hrb : hB th rm ws cs L = (decide (pE th rm ws cs L = 0) && (!(L.any unt) && expl rm [] L)) := rfl
  generalize hB th rm ws cs L = rb at *
  generalize pE th rm ws cs L = pe at *
  generalize expl rm [] L = ex at *
  generalize L.any unt = un at *
  generalize cs.length = n at *
  have SB : Hid (∀ (W W' : World) (va : Option Addr) (vc : Nat), Sl W (fun _ => True) 9 (.slice va L.length vc) L.length (cqs L) → Below W.heap.size W W' → Sl W' (fun _ => True) 9 (.slice va L.length vc) L.length (cqs L)) := Mr.hid (fun W W' va vc h h' => h.below h')
  generalize L.length = m at *
  unfold Dq.dV rnV at PT
  unfold Dq.dV at EX
  have B0' := Mr.hid B0
  clear B0 b0 b1 hv hw hzn hLn hP hS
  unfold Dq.dV rnV
  go_enter Tryz.func7, Tryz.ntmps7
  go_upto_region 1 with fail
  generalize (World.alloc (World.alloc _ _) _) = w1 at *
  go_upto_region 2 with (go_at_call 15; refine (PT.out _ B0'.out).mono ?_; rintro e w2 ⟨va, vl, vc, rfl, hB2, hres⟩)
  have k0 := (hB2.cell (p := ⟨w.heap.size, 0, none⟩) (by show w.heap.size < _; omega)).trans c0
  have k1 := (hB2.cell (p := ⟨w.heap.size, 1, none⟩) (by show w.heap.size < _; omega)).trans c1
  have lb2 := Nat.lt_of_lt_of_le lb hB2.size
  have BB : Hid (Below w.heap.size w w2) := Mr.hid (B0'.out.trans (hB2.mono B0'.out.size))
  clear c0 c1 d0 d1 d2 d3 hB2 lb
  by_cases hx0 : pe = 0
  · obtain ⟨hvn, hsl⟩ := hres hx0
    subst hvn
    have E2 := Mr.hid (EX.out hx0)
    subst hx0
    replace hsl := Mr.hid hsl
    clear hres
    cases un with
    | true =>
      have hrb' : rb = false := by rw [hrb]; simp
      subst hrb'
      clear hrb
      go_wp2_with (go_at_call 16; refine (CF.out _ _ _ hsl.out).mono ?_; rintro e w3 ⟨rfl, hB3⟩)
      go_ret2
      exact ⟨rfl, BB.out.trans (hB3.mono BB.out.size)⟩
    | false =>
      have hrb' : rb = ex := by rw [hrb]; simp
      subst hrb'
      clear hrb
      go_wp2_with (first | (go_at_call 16; refine (CF.out _ _ _ hsl.out).mono ?_; rintro e w3 ⟨rfl, hB3⟩; replace k0 := (hB3.cell (p := ⟨w.heap.size, 0, none⟩) (by show w.heap.size < _; omega)).trans k0; replace k1 := (hB3.cell (p := ⟨w.heap.size, 1, none⟩) (by show w.heap.size < _; omega)).trans k1) | (go_at_call 18; refine (E2.out _ _ _ (SB.out _ _ _ _ hsl.out hB3)).mono ?_; rintro e w4 ⟨rfl, hB4⟩))
      go_ret2
      exact ⟨rfl, (BB.out.trans (hB3.mono BB.out.size)).trans (hB4.mono (Nat.le_trans BB.out.size hB3.size))⟩
  · have q0 : (pe != 0) = true := by simp [hx0]
    have hrb' : rb = false := by rw [hrb, decide_eq_false hx0]; rfl
    subst hrb'
    clear hrb hres
    go_wp2
    go_ret2
    exact ⟨rfl, BB.out⟩
end Go.Proofs.YtedaoljmcfbbpaaGreat.Hd
