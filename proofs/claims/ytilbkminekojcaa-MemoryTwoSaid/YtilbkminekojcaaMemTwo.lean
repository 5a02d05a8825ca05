/-
  TWO MEMORIES beside each other; a script's state in the form that Back takes back; sameLog.
-/
import Derived.Test.YtilbkminekojcaaMemBackTo
namespace Go.Proofs.Ytilbkminekojcaa.Me
open Go.RowKit Mr
set_option linter.unusedVariables false
def runF (s : St) (os : List O) : St := os.foldl (fun s o => stp o 0 s) s
theorem runF_snoc (s : St) (os : List O) (i : Nat) (hi : i < os.length) : runF s (os.take (i + 1)) = stp (os[i]?.getD noO) 0 (runF s (os.take i)) := by
  unfold runF
  rw [List.take_add_one, List.foldl_append]
  simp [hi]
/-- A state that is its log's. -/
structure Pl (ws0 : List Int) (s : St) : Prop where
  ws : s.ws = (play ws0 s.lg).1
  ah : s.ah = (play ws0 s.lg).2
  ok : ∀ a ∈ s.lg, 0 ≤ a.ad ∧ a.ad < ws0.length
theorem Pl.zero (ws0 : List Int) : Pl ws0 ⟨ws0, [], []⟩ := ⟨rfl, rfl, fun a ha => by simp at ha⟩
theorem Pl.stp {ws0 : List Int} {s : St} (h : Pl ws0 s) (o : O) (mv : Int) : Pl ws0 (stp o mv s) := by
  have hl : s.ws.length = ws0.length := by rw [h.ws, play_length]
  unfold Me.stp
  split
  · rename_i hin
    have e : (mkA o mv s.ws).ad = o.ad := mkA_ad o mv s.ws
    refine ⟨?_, ?_, ?_⟩
    · simp only [play_snoc, putA]
      rw [← h.ws]
      split
      · rfl
      · exact h.ws
    · simp only [play_snoc]
      rw [← h.ws, ← h.ah, e]
      split
      · rfl
      · exact h.ah
    · intro a ha
      rcases List.mem_append.1 ha with ha | ha
      · exact h.ok a ha
      · simp at ha
        subst ha
        rw [e]
        exact ⟨hin.1, by omega⟩
  · exact h
theorem Pl.runF {ws0 : List Int} {s : St} (h : Pl ws0 s) (os : List O) : Pl ws0 (runF s os) := by
  unfold Me.runF
  induction os generalizing s with
  | nil => exact h
  | cons o l ih => exact ih (h.stp o 0)
theorem Pl.len {ws0 : List Int} {s : St} (h : Pl ws0 s) : s.ws.length = ws0.length := by rw [h.ws, play_length]
theorem Pl.ahl {ws0 : List Int} {s : St} (h : Pl ws0 s) : s.ah.length ≤ s.lg.length := by rw [h.ah]; exact play_ah_le _ _
theorem runF_lg (s : St) (os : List O) : ∃ l, (runF s os).lg = s.lg ++ l ∧ l.length ≤ os.length := by
  unfold runF
  induction os generalizing s with
  | nil => exact ⟨[], by simp, by simp⟩
  | cons o l ih =>
    obtain ⟨l', h1, h2⟩ := ih (stp o 0 s)
    have : ∃ l'', (stp o 0 s).lg = s.lg ++ l'' ∧ l''.length ≤ 1 := by
      unfold stp
      split
      · exact ⟨[_], rfl, by simp⟩
      · exact ⟨[], by simp, by simp⟩
    obtain ⟨l'', h3, h4⟩ := this
    refine ⟨l'' ++ l', by rw [List.foldl_cons, h1, h3, List.append_assoc], by simp; omega⟩
/-- A state taken back. -/
theorem Pl.back {ws0 : List Int} {s t : St} (hs : Pl ws0 s) (l : List Acc) (ht : t.lg = s.lg ++ l) : (⟨(play ws0 (t.lg.take s.lg.length)).1, t.lg.take s.lg.length, (play ws0 (t.lg.take s.lg.length)).2⟩ : St) = s := by
  have e : t.lg.take s.lg.length = s.lg := by rw [ht]; exact List.take_left
  rw [e, ← hs.ws, ← hs.ah]
theorem roomy_small {ws0 : List Int} {s : St} (h : Pl ws0 s) (hn : s.lg.length ≤ 10000000) : Roomy s.lg s.ah := by
  have := h.ahl
  exact ⟨by omega, by omega⟩

theorem MemS.narrow {W : World} {S : Nat → Prop} {b : Nat} {s : St} {mv : Int} (h : MemS W S b s mv) : MemS W (fun k => S k ∧ k < W.heap.size) b s mv := by
  obtain ⟨vw, vl, va, h⟩ := h; exact ⟨vw, vl, va, h.narrow⟩
/-- Two memories, all of n's blocks and beyond, that share none. -/
def Two (W : World) (n b c : Nat) (s t : St) : Prop := ∃ S T : Nat → Prop, MemS W S b s 0 ∧ MemS W T c t 0 ∧ (∀ k, S k → n ≤ k ∧ k < W.heap.size) ∧ (∀ k, T k → n ≤ k ∧ k < W.heap.size) ∧ ∀ k, S k → ¬ T k
theorem Two.swap {W : World} {n b c : Nat} {s t : St} (h : Two W n b c s t) : Two W n c b t s := by
  obtain ⟨S, T, h1, h2, h3, h4, h5⟩ := h
  exact ⟨T, S, h2, h1, h4, h3, fun k hk hS => h5 k hS hk⟩
theorem Two.below {W W' : World} {n b c : Nat} {s t : St} (h : Two W n b c s t) (hB : Below W.heap.size W W') : Two W' n b c s t := by
  obtain ⟨S, T, h1, h2, h3, h4, h5⟩ := h
  have := hB.size
  exact ⟨S, T, h1.below hB, h2.below hB, fun k hk => ⟨(h3 k hk).1, by have := (h3 k hk).2; omega⟩, fun k hk => ⟨(h4 k hk).1, by have := (h4 k hk).2; omega⟩, h5⟩
theorem Two.made {W W' : World} {n b c : Nat} {s t : St} (hn : n ≤ W.heap.size) (h1 : MemS W (fun k => n ≤ k) b s 0) (h2 : MemS W' (fun k => W.heap.size ≤ k) c t 0) (hB : Below W.heap.size W W') : Two W' n b c s t := by
  have := hB.size
  exact ⟨_, _, h1.narrow.below hB, h2.narrow, fun k hk => ⟨hk.1, by omega⟩, fun k hk => ⟨by omega, hk.2⟩, fun k hk hk2 => by omega⟩
/-- A call that turns the first alone. -/
theorem Two.step {W : World} {n b c f : Nat} {s s' t : St} {args : Array Value} {R : Ending → Prop} (h : Two W n b c s t) (hn : n ≤ W.heap.size)
    (C : ∀ S, MemS W S b s 0 → Calls Try.prog f args W fun e w' => R e ∧ MemS w' (fun k => S k ∨ W.heap.size ≤ k) b s' 0 ∧ Fr W w' S) :
    Calls Try.prog f args W fun e w' => R e ∧ Two w' n b c s' t ∧ Below n W w' := by
  obtain ⟨S, T, h1, h2, h3, h4, h5⟩ := h
  refine (C S h1).mono ?_
  rintro e w' ⟨hR, hm, hf⟩
  have hs := hf.size
  refine ⟨hR, ⟨_, T, hm.narrow, h2.fr hf (fun k hk _ hS => h5 k hS hk), fun k hk => ⟨?_, hk.2⟩, fun k hk => ⟨(h4 k hk).1, by have := (h4 k hk).2; omega⟩, fun k hk hT => ?_⟩, hf.below (fun k hk => (h3 k hk).1) hn⟩
  · rcases hk.1 with hk | hk
    · exact (h3 k hk).1
    · omega
  · rcases hk.1 with hk | hk
    · exact h5 k hk hT
    · have := (h4 k hT).2; omega
theorem Two.access {W : World} {n b c : Nat} {s t : St} (h : Two W n b c s t) (hn : n ≤ W.heap.size) (hb : Roomy s.lg s.ah) (o : O) :
    Calls Try.prog 10 #[.pointer (some ⟨b, 0, none⟩), .agg #[.int .i64 o.k, .int .i64 o.th, .int .i64 o.ad, .int .i64 o.n, .int .u64 o.old, .int .u64 o.w]] W fun e w' => e = .returned (.tuple #[]) ∧ Two w' n b c (stp o 0 s) t ∧ Below n W w' :=
  h.step hn fun S hS => access_any hS hb o
theorem Two.back {W : World} {n b c : Nat} {ws0 : List Int} {s t u : St} (h : Two W n b c s t) (hn : n ≤ W.heap.size) (hp : Pl ws0 s) (hu : Pl ws0 u) (l : List Acc) (hl : s.lg = u.lg ++ l) (hsm : s.lg.length ≤ 10000000) :
    Calls Try.prog 14 #[.pointer (some ⟨b, 0, none⟩), .int .i64 (u.lg.length : Int)] W fun e w' => e = .returned (.int .i64 0) ∧ Two w' n b c u t ∧ Below n W w' :=
  h.step hn fun S hS => by
    obtain ⟨vw, vl, va, hm⟩ := hS
    have hq := hu.back l hl
    rw [hp.ws, hp.ah] at hm
    refine (back_to hm hp.ok u.lg.length (by rw [hl]; simp) (by omega)).mono ?_
    rintro e w' ⟨rfl, ⟨vl', va', h1⟩, h2⟩
    refine ⟨rfl, ?_, h2⟩
    have : MemS w' S b ⟨(play ws0 (s.lg.take u.lg.length)).1, s.lg.take u.lg.length, (play ws0 (s.lg.take u.lg.length)).2⟩ 0 := ⟨vw, vl', va', h1⟩
    rw [hq] at this
    exact this.mono (fun k hk => .inl hk)
theorem Two.count {W : World} {n b c : Nat} {s t : St} (h : Two W n b c s t) : Calls Try.prog 12 #[.pointer (some ⟨b, 0, none⟩)] W fun e w' => e = .returned (.int .i64 s.lg.length) ∧ w' = W := by
  obtain ⟨S, T, ⟨vw, vl, va, hm⟩, _⟩ := h
  exact count_any hm
theorem Two.words {W : World} {n b c : Nat} {s t : St} (h : Two W n b c s t) : Calls Try.prog 15 #[.pointer (some ⟨b, 0, none⟩)] W fun e w' => ∃ v, e = .returned v ∧ Has w' (fun k => W.heap.size ≤ k) 31 1 v s.ws.length (wrd s.ws) ∧ Below W.heap.size W w' := by
  obtain ⟨S, T, ⟨vw, vl, va, hm⟩, _⟩ := h
  exact words_any hm
theorem Two.logged {W : World} {n b c : Nat} {s t : St} (h : Two W n b c s t) (hsm : s.lg.length ≤ 10000000) : Calls Try.prog 11 #[.pointer (some ⟨b, 0, none⟩), .int .i64 0, .int .i64 ((s.lg.length : Int) + 1)] W fun e w' => ∃ vn vq, e = .returned (.tuple #[vn, vq, .bool true]) ∧ Has w' (fun k => W.heap.size ≤ k) 41 7 vq s.lg.length (lgc s.lg) ∧ Below W.heap.size W w' := by
  obtain ⟨S, T, ⟨vw, vl, va, hm⟩, _⟩ := h
  refine (logged_any hm (by omega) 0 ((s.lg.length : Int) + 1)).mono ?_
  rintro e w' ⟨vn, vq, k, hk, rfl, _, hq, hB⟩
  have hk' : k = s.lg.length := by rw [hk]; simp
  subst hk'
  simp only [Int.toNat_zero, ent_all] at hq
  exact ⟨vn, vq, rfl, hq, hB⟩
theorem Two.writer {W : World} {n b c : Nat} {s t : St} (h : Two W n b c s t) (hsm : s.lg.length ≤ 10000000) (i : Nat) (hi : i < s.ws.length) : Calls Try.prog 36 #[.pointer (some ⟨b, 0, none⟩), .int .i64 (i : Int)] W fun e w' => e = .returned (.tuple #[.int .i64 (lastW i (ent s.lg 0 s.lg.length)).1, .int .i64 (lastW i (ent s.lg 0 s.lg.length)).2, .int .i64 0]) ∧ Below W.heap.size W w' := by
  obtain ⟨S, T, ⟨vw, vl, va, hm⟩, _⟩ := h
  exact writer_any hm (by omega) i hi
set_option maxRecDepth 100000 in
theorem sameLog_same {w : World} {S T : Nat → Prop} {u v : Value} {lg : List Acc} (hu : Has w S 41 7 u lg.length (lgc lg)) (hv : Has w T 41 7 v lg.length (lgc lg)) (hsm : lg.length ≤ 5026338869641) :
    Calls Try.prog 34 #[u, v] w fun e w' => e = .returned (.bool true) ∧ Below w.heap.size w w' := by
  obtain ⟨au, cu, rfl, hcu⟩ := hu.form
  obtain ⟨av, cv, rfl, hcv⟩ := hv.form
  go_enter Try.func34, Try.ntmps34
  go_wp2
  go_loopg [5] lg.length (fun k s wr => ∃ i : Nat, s = .int .i64 (i : Int) ∧ i + k = lg.length ∧ Below w.heap.size w wr)
  case atStart => exact ⟨0, rfl, by omega, Below.refl _ _⟩
  case round =>
    obtain ⟨i, rfl, hi, B⟩ := hrel
    by_cases hlt : i < lg.length
    · obtain ⟨gu, cu', hgu, _, hul, _⟩ := hu.there (by omega)
      obtain ⟨gv, cv', hgv, _, hvl, _⟩ := hv.there (by omega)
      cases hgu
      cases hgv
      have cs : ∀ t u, t < 7 → (lg[i]?.getD noAcc).cells[t]? = some u → wr.cell? ⟨gu, i * 7 + t, none⟩ = some u := fun t u ht hu' => (B.cell (p := ⟨gu, i * 7 + t, none⟩) hul).trans (hu.cells (g := gu) rfl _ _ ((lgc_get lg _ hlt t ht).trans hu'))
      have cs' : ∀ t u, t < 7 → (lg[i]?.getD noAcc).cells[t]? = some u → wr.cell? ⟨gv, i * 7 + t, none⟩ = some u := fun t u ht hu' => (B.cell (p := ⟨gv, i * 7 + t, none⟩) hvl).trans (hv.cells (g := gv) rfl _ _ ((lgc_get lg _ hlt t ht).trans hu'))
      generalize lg[i]?.getD noAcc = y at *
      obtain ⟨y0, y1, y2, y3, y4, y5, y6⟩ := y
      have d0 := cs 0 _ (by decide) rfl
      have d1 := cs 1 _ (by decide) rfl
      have d2 := cs 2 _ (by decide) rfl
      have d3 := cs 3 _ (by decide) rfl
      have d4 := cs 4 _ (by decide) rfl
      have d5 := cs 5 _ (by decide) rfl
      have d6 := cs 6 _ (by decide) rfl
      have f0 := cs' 0 _ (by decide) rfl
      have f1 := cs' 1 _ (by decide) rfl
      have f2 := cs' 2 _ (by decide) rfl
      have f3 := cs' 3 _ (by decide) rfl
      have f4 := cs' 4 _ (by decide) rfl
      have f5 := cs' 5 _ (by decide) rfl
      have f6 := cs' 6 _ (by decide) rfl
      simp only [Nat.add_zero] at d0 f0
      clear cs cs'
      replace hu := Mr.hid hu
      replace hv := Mr.hid hv
      generalize lg.length = n at *
      have hB := Mr.hid B
      go_wp2
      go_region
      all_goals go_wp2
      all_goals go_roundg (gk - 1)
      case measure => omega
      case rel => exact ⟨i + 1, by simp, by omega, B.drew⟩
    · have hle : lg.length ≤ i := by omega
      go_wp2
      go_ret
      exact ⟨rfl, B⟩
end Go.Proofs.Ytilbkminekojcaa.Me
