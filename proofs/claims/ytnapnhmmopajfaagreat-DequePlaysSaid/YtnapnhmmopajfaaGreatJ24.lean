import Derived.Test.YtnapnhmmopajfaaGreatJ19
import Derived.Test.YtnapnhmmopajfaaGreatJ23
import Derived.RangeFuncNested
/-
  THE DEQUE's TASKS: what holds of the pure machine is kept by every move.
-/
namespace Go.Proofs.YtnapnhmmopajfaaGreat.Dm
open Go.RowKit Mr Me Ma Gm
set_option linter.unusedVariables false
set_option linter.unusedSimpArgs false
theorem Ok.mono {i n m : Nat} {k : Dt} (h : Ok i n k) (hm : n ≤ m) : Ok i m k := by
  cases k <;> simp only [Ok] at h ⊢
  · exact ⟨h.1, h.2.1, h.2.2.1, fun a => ⟨(h.2.2.2 a).1, by have := (h.2.2.2 a).2; omega⟩⟩
  · exact ⟨h.1, h.2.1, h.2.2.1, fun a => ⟨(h.2.2.2.1 a).1, by have := (h.2.2.2.1 a).2; omega⟩, fun a => ⟨(h.2.2.2.2.1 a).1, by have := (h.2.2.2.2.1 a).2; omega⟩, h.2.2.2.2.2⟩
  · exact ⟨h.1, h.2.1, fun a => ⟨(h.2.2 a).1, by have := (h.2.2 a).2; omega⟩⟩
theorem rd_same {ws : List Int} {a : Nat} (x : Int) (h : a < ws.length) : rd (ws.set a x) a = x := by simp [rd, h]
theorem rd_other {ws : List Int} {a c : Nat} (x : Int) (h : a ≠ c) : rd (ws.set a x) c = rd ws c := by simp [rd, List.getElem?_set_ne h]
theorem cel_ne (r : Nat) (k : Int) : cel r k ≠ 0 ∧ cel r k ≠ 1 := by unfold cel; constructor <;> omega
variable {r : Nat} {P : Pg Dt Lw}
theorem Iv.count (h : Iv r P) : Iv r P.count := by
  obtain ⟨l, r1, r2, t, ⟨b, b1, b2, b3, b4⟩, k⟩ := h
  exact ⟨l, r1, r2, ⟨t.1, by have := t.2; show rd P.ws 0 ≤ ((P.n + 1 : Nat) : Int); omega⟩, ⟨b, b1, b2, by show _ ≤ ((P.n + 1 : Nat) : Int); omega, b4⟩, fun i t k' h1 h2 => (k i t k' h1 h2).mono (Nat.le_succ _)⟩
/-- What an effect must keep. -/
structure Ke (r : Nat) (P : Pg Dt Lw) (i : Nat) (e : Df) : Prop where
  len : e.ws.length = 2 + r
  top : 0 ≤ rd e.ws 0 ∧ rd e.ws 0 ≤ P.n + 1
  bot : ∃ b : Int, rd e.ws 1 = nU b ∧ -1 ≤ b ∧ b ≤ P.n + 1 ∧ (b = -1 → (i = 0 ∧ ∃ nx tt v, e.tk = some (.take nx (-1) tt v) ∧ 3 ≤ nx) ∨ (i ≠ 0 ∧ ∃ t0 nx tt v, P.pts[0]? = some t0 ∧ t0.tk = some (.take nx (-1) tt v) ∧ 3 ≤ nx))
  tsk : ∀ k, e.tk = some k → Ok i (P.n + 1) k
theorem Ke.step {i : Nat} {t : Pt Dt} {now : Int} {e : Df} (h : Iv r P) (ht : P.pts[i]? = some t) (ke : Ke r P i e) : Iv r (P.count.stepE i t now e) := by
  have hi : i < P.pts.length := (List.getElem?_eq_some_iff.1 ht).1
  obtain ⟨Q, hQ⟩ : ∃ Q, P.count.stepE i t now e = Q := ⟨_, rfl⟩
  have q1 : Q.ws = e.ws := by rw [← hQ]; unfold Pg.stepE; split <;> rfl
  have q2 : Q.n = P.n + 1 := by rw [← hQ, stepE_n]; rfl
  have q3 : ∃ u : Pt Dt, u.tk = e.tk ∧ Q.pts = P.pts.set i u := by
    rw [← hQ]; unfold Pg.stepE
    split
    · rename_i k hk; exact ⟨_, hk.symm, rfl⟩
    · rename_i hk; exact ⟨_, hk.symm, rfl⟩
  obtain ⟨u, hu, hp⟩ := q3
  rw [hQ]
  obtain ⟨b, b1, b2, b3, b4⟩ := ke.bot
  refine ⟨by rw [q1]; exact ke.len, h.r1, h.r2, by rw [q1, q2]; exact ⟨ke.top.1, by have := ke.top.2; omega⟩, ⟨b, by rw [q1]; exact b1, b2, by rw [q2]; omega, fun e1 => ?_⟩, fun j t' k hj hk => ?_⟩
  · rw [hp]
    rcases b4 e1 with ⟨rfl, nx, tt, v, h1, h2⟩ | ⟨h0, t0, nx, tt, v, h1, h2, h3⟩
    · exact ⟨u, nx, tt, v, by simp [hi], by rw [hu]; exact h1, h2⟩
    · exact ⟨t0, nx, tt, v, by rw [List.getElem?_set_ne h0]; exact h1, h2, h3⟩
  · rw [hp] at hj
    rw [q2]
    rcases pts_set hj with ⟨rfl, rfl⟩ | ⟨_, hj⟩
    · exact ke.tsk k (by rw [← hu]; exact hk)
    · exact (h.tsk j t' k hj hk).mono (Nat.le_succ _)
set_option maxHeartbeats 1000000 in
theorem ke_stp (h : Iv r P) (hn : P.n < 65536) {i : Nat} {t : Pt Dt} {k : Dt} (ht : P.pts[i]? = some t) (hk : t.tk = some k) (now : Int) (fr : Bool) : Ke r P i (stp r fr i now P.ws P.g k) := by
  have hok := h.tsk i t k ht hk
  obtain ⟨hl, r1, r2, ⟨t1, t2⟩, ⟨b, b1, b2, b3, b4⟩, _⟩ := h
  have w0 : wrap64 (rd P.ws 0) = rd P.ws 0 := w64_id _ t1 (by omega)
  have w1 : wrap64 (rd P.ws 1) = b := by rw [b1]; exact w64_nU b b2 (by omega)
  have ex : i = 0 → b = -1 → ∃ nx tt v, k = .take nx (-1) tt v ∧ 3 ≤ nx := fun e1 e2 => by
    obtain ⟨t0, nx, tt, v, h1, h2, h3⟩ := b4 e2
    subst e1
    rw [ht] at h1
    obtain rfl := Option.some.inj h1
    rw [hk] at h2
    exact ⟨nx, tt, v, Option.some.inj h2, h3⟩
  have l0 : 0 < P.ws.length := by omega
  have l1 : 1 < P.ws.length := by omega
  have cn := cel_ne r
  have tt1 : rd P.ws 0 ≤ P.n + 1 := by omega
  -- bottom is what it was
  have same : ∀ tk' : Option Dt, (i = 0 → b = -1 → ∃ nx tt v, tk' = some (.take nx (-1) tt v) ∧ 3 ≤ nx) → ∃ b : Int, rd P.ws 1 = nU b ∧ -1 ≤ b ∧ b ≤ P.n + 1 ∧ (b = -1 → (i = 0 ∧ ∃ nx tt v, tk' = some (.take nx (-1) tt v) ∧ 3 ≤ nx) ∨ (i ≠ 0 ∧ ∃ t0 nx tt v, P.pts[0]? = some t0 ∧ t0.tk = some (.take nx (-1) tt v) ∧ 3 ≤ nx)) := fun tk' hs => ⟨b, b1, b2, by omega, fun e2 => by
    by_cases hi : i = 0
    · exact .inl ⟨hi, hs hi e2⟩
    · exact .inr ⟨hi, b4 e2⟩⟩
  cases k with
  | push nx v bt =>
    simp only [Ok] at hok
    obtain ⟨o1, o2, o3, o4⟩ := hok
    have nb : b ≠ -1 := fun e => by obtain ⟨_, _, _, h, _⟩ := ex o1 e; cases h
    have sm := fun tk' => same tk' (fun _ e => absurd e nb)
    obtain rfl | rfl | rfl | rfl : nx = 1 ∨ nx = 2 ∨ nx = 3 ∨ nx = 4 := by omega
    · show Ke r P i ⟨_, _, _, _, _, _⟩
      exact ⟨hl, ⟨t1, tt1⟩, sm _, fun k e => by cases e; rw [w1]; exact ⟨o1, by omega, by omega, fun _ => ⟨by clear ex sm same; omega, by clear ex sm same; omega⟩⟩⟩
    · by_cases hy : (r : Int) ≤ bt - wrap64 (rd P.ws 0)
      · have e : stp r fr i now P.ws P.g (.push 2 v bt) = _ := if_pos hy
        rw [e]
        exact ⟨hl, ⟨t1, tt1⟩, sm _, fun k e => by cases e⟩
      · have e : stp r fr i now P.ws P.g (.push 2 v bt) = _ := if_neg hy
        rw [e]
        exact ⟨hl, ⟨t1, tt1⟩, sm _, fun k e => by cases e; simp only [Ok]; omega⟩
    · show Ke r P i ⟨_, _, _, _, _, _⟩
      refine ⟨by show (P.ws.set _ _).length = _; simpa using hl, ?_, ?_, fun k e => by cases e; simp only [Ok]; omega⟩
      · show 0 ≤ rd (P.ws.set _ _) 0 ∧ rd (P.ws.set _ _) 0 ≤ _
        rw [rd_other _ (cn _).1]; omega
      · show ∃ b : Int, rd (P.ws.set _ _) 1 = _ ∧ _
        rw [rd_other _ (cn _).2]; exact sm _
    · show Ke r P i ⟨_, _, _, _, _, _⟩
      refine ⟨by show (P.ws.set _ _).length = _; simpa using hl, ?_, ?_, fun k e => by cases e⟩
      · show 0 ≤ rd (P.ws.set _ _) 0 ∧ rd (P.ws.set _ _) 0 ≤ _
        rw [rd_other _ (by omega)]; omega
      · show ∃ b : Int, rd (P.ws.set _ _) 1 = _ ∧ _
        rw [rd_same _ l1]
        exact ⟨bt + 1, rfl, by omega, by omega, fun e => by omega⟩
  | take nx l tt v =>
    simp only [Ok] at hok
    obtain ⟨o1, o2, o3, o4, o5, o6⟩ := hok
    have sm : ∀ nx' tt' v', 3 ≤ nx' → _ := fun nx' tt' v' h3 => same (some (.take nx' l tt' v')) (fun e1 e2 => by
      obtain ⟨_, _, _, h, h4⟩ := ex e1 e2
      cases h; exact ⟨_, _, _, rfl, h3⟩)
    obtain rfl | rfl | rfl | rfl | rfl | rfl | rfl : nx = 1 ∨ nx = 2 ∨ nx = 3 ∨ nx = 4 ∨ nx = 5 ∨ nx = 6 ∨ nx = 7 := by omega
    · have nb : b ≠ -1 := fun e => by obtain ⟨_, _, _, h, h4⟩ := ex o1 e; cases h; omega
      exact ⟨hl, ⟨t1, tt1⟩, same _ (fun _ e => absurd e nb), fun k e => by cases e; simp only [Ok, w1]; omega⟩
    · show Ke r P i ⟨_, _, _, _, _, _⟩
      refine ⟨by show (P.ws.set _ _).length = _; simpa using hl, ?_, ?_, fun k e => by cases e; simp only [Ok]; omega⟩
      · show 0 ≤ rd (P.ws.set _ _) 0 ∧ rd (P.ws.set _ _) 0 ≤ _
        rw [rd_other _ (by omega)]; omega
      · show ∃ b : Int, rd (P.ws.set _ _) 1 = _ ∧ _
        rw [rd_same _ l1]
        exact ⟨l, rfl, by omega, by omega, fun e => .inl ⟨o1, 3, tt, v, by show some (Dt.take 3 l tt v) = _; rw [e], by omega⟩⟩
    · by_cases hy : l < wrap64 (rd P.ws 0)
      · have e : stp r fr i now P.ws P.g (.take 3 l tt v) = _ := if_pos hy
        rw [e]
        exact ⟨hl, ⟨t1, tt1⟩, sm _ _ _ (by omega), fun k e => by cases e; simp only [Ok, w0]; omega⟩
      · have e : stp r fr i now P.ws P.g (.take 3 l tt v) = _ := if_neg hy
        rw [e]
        rw [w0] at hy
        exact ⟨hl, ⟨t1, tt1⟩, sm _ _ _ (by omega), fun k e => by cases e; simp only [Ok, w0]; omega⟩
    · show Ke r P i ⟨_, _, _, _, _, _⟩
      refine ⟨by show (P.ws.set _ _).length = _; simpa using hl, ?_, ?_, fun k e => by cases e⟩
      · show 0 ≤ rd (P.ws.set _ _) 0 ∧ rd (P.ws.set _ _) 0 ≤ _
        rw [rd_other _ (by omega)]; omega
      · show ∃ b : Int, rd (P.ws.set _ _) 1 = _ ∧ _
        rw [rd_same _ l1]
        exact ⟨tt, rfl, by omega, by omega, fun e => by omega⟩
    · have nb : b ≠ -1 := fun e => by obtain ⟨_, _, _, h, h4⟩ := ex o1 e; cases h; omega
      by_cases hy : tt < l
      · have e : stp r fr i now P.ws P.g (.take 5 l tt v) = _ := if_pos hy
        rw [e]
        exact ⟨hl, ⟨t1, tt1⟩, same _ (fun _ e => absurd e nb), fun k e => by cases e⟩
      · have e : stp r fr i now P.ws P.g (.take 5 l tt v) = _ := if_neg hy
        rw [e]
        exact ⟨hl, ⟨t1, tt1⟩, sm _ _ _ (by omega), fun k e => by cases e; simp only [Ok]; omega⟩
    · by_cases hy : rd P.ws 0 = tt
      · have e : stp r fr i now P.ws P.g (.take 6 l tt v) = _ := if_pos hy
        rw [e]
        refine ⟨by show (P.ws.set _ _).length = _; simpa using hl, ?_, ?_, fun k e => by cases e; simp only [Ok]; omega⟩
        · show 0 ≤ rd (P.ws.set _ _) 0 ∧ rd (P.ws.set _ _) 0 ≤ _
          rw [rd_same _ l0]; omega
        · show ∃ b : Int, rd (P.ws.set _ _) 1 = _ ∧ _
          rw [rd_other _ (by omega)]; exact sm _ _ _ (by omega)
      · have e : stp r fr i now P.ws P.g (.take 6 l tt v) = _ := if_neg hy
        rw [e]
        exact ⟨hl, ⟨t1, tt1⟩, sm _ _ _ (by omega), fun k e => by cases e; simp only [Ok]; omega⟩
    · show Ke r P i ⟨_, _, _, _, _, _⟩
      refine ⟨by show (P.ws.set _ _).length = _; simpa using hl, ?_, ?_, fun k e => by cases e⟩
      · show 0 ≤ rd (P.ws.set _ _) 0 ∧ rd (P.ws.set _ _) 0 ≤ _
        rw [rd_other _ (by omega)]; omega
      · show ∃ b : Int, rd (P.ws.set _ _) 1 = _ ∧ _
        rw [rd_same _ l1]
        exact ⟨tt + 1, rfl, by omega, by omega, fun e => by omega⟩
  | steal nx tt v =>
    simp only [Ok] at hok
    obtain ⟨o2, o3, o4⟩ := hok
    have sm := fun tk' => same tk' (fun e1 e => by obtain ⟨_, _, _, h, _⟩ := ex e1 e; cases h)
    obtain rfl | rfl | rfl | rfl : nx = 1 ∨ nx = 2 ∨ nx = 3 ∨ nx = 4 := by omega
    · show Ke r P i ⟨_, _, _, _, _, _⟩
      exact ⟨hl, ⟨t1, tt1⟩, sm _, fun k e => by cases e; simp only [Ok, w0]; omega⟩
    · by_cases hy : wrap64 (rd P.ws 1) - tt ≤ 0
      · have e : stp r fr i now P.ws P.g (.steal 2 tt v) = _ := if_pos hy
        rw [e]
        exact ⟨hl, ⟨t1, tt1⟩, sm _, fun k e => by cases e⟩
      · have e : stp r fr i now P.ws P.g (.steal 2 tt v) = _ := if_neg hy
        rw [e]
        exact ⟨hl, ⟨t1, tt1⟩, sm _, fun k e => by cases e; simp only [Ok]; omega⟩
    · show Ke r P i ⟨_, _, _, _, _, _⟩
      exact ⟨hl, ⟨t1, tt1⟩, sm _, fun k e => by cases e; simp only [Ok]; omega⟩
    · by_cases hy : rd P.ws 0 = tt
      · have e : stp r fr i now P.ws P.g (.steal 4 tt v) = _ := if_pos hy
        rw [e]
        refine ⟨by show (P.ws.set _ _).length = _; simpa using hl, ?_, ?_, fun k e => by cases e⟩
        · show 0 ≤ rd (P.ws.set _ _) 0 ∧ rd (P.ws.set _ _) 0 ≤ _
          rw [rd_same _ l0]; omega
        · show ∃ b : Int, rd (P.ws.set _ _) 1 = _ ∧ _
          rw [rd_other _ (by omega)]; exact sm _
      · have e : stp r fr i now P.ws P.g (.steal 4 tt v) = _ := if_neg hy
        rw [e]
        exact ⟨hl, ⟨t1, tt1⟩, sm _, fun k e => by cases e; simp only [Ok]; omega⟩
theorem mk_ok {i n : Nat} {op arg data : Int} {g : Lw} {k : Dt} (h : mk i op arg data g = some k) : Ok i n k := by
  unfold mk at h
  split at h
  · split at h
    · rename_i hi; cases h; simp only [Ok]; omega
    · cases h
  · split at h
    · split at h
      · rename_i hi; cases h; simp only [Ok]; omega
      · cases h
    · split at h
      · cases h; simp only [Ok]; omega
      · cases h
theorem Iv.move (h : Iv r P) (th op arg data : Int) : Iv r (P.move (dqY r) th op arg data).1 := by
  unfold Pg.move
  split
  · exact h
  · rename_i hn
    split
    · split
      · exact h.count
      · rename_i t ht
        split
        · unfold Pg.step
          split
          · exact h.count
          · rename_i k hk
            exact (ke_stp h (by omega) ht hk _ t.fr).step h ht
        · split
          · exact h.count
          · rename_i hidle
            unfold Pg.begins
            split
            · exact h.count
            · rename_i k hk
              have hc := h.count
              have hi : th.toNat < P.pts.length := (List.getElem?_eq_some_iff.1 ht).1
              obtain ⟨hl, r1, r2, tp, ⟨b, b1, b2, b3, b4⟩, kk⟩ := hc
              refine ⟨hl, r1, r2, tp, ⟨b, b1, b2, b3, fun e => ?_⟩, fun j u k' hj hk' => ?_⟩
              · obtain ⟨t0, nx, tt, v, h1, h2, h3⟩ := b4 e
                refine ⟨t0, nx, tt, v, ?_, h2, h3⟩
                show (P.pts.set _ _)[0]? = _
                by_cases h0 : th.toNat = 0
                · have h1' : P.pts[0]? = some t0 := h1
                  rw [h0] at ht
                  rw [ht] at h1'
                  cases h1'
                  rw [h2] at hidle
                  exact absurd rfl hidle
                · rw [List.getElem?_set_ne h0]; exact h1
              · have hj' : (P.pts.set _ _)[j]? = some u := hj
                rcases pts_set hj' with ⟨rfl, rfl⟩ | ⟨_, hj''⟩
                · cases hk'; exact mk_ok (data := data) (g := P.count.g) hk
                · exact kk j u k' hj'' hk'
    · exact h.count
theorem rd_zero (m a : Nat) : rd (List.replicate m 0) a = 0 := by
  unfold rd
  rw [List.getElem?_replicate]
  split <;> rfl
theorem iv_new (nth : Nat) (h1 : 1 ≤ r) (h2 : r ≤ 256) : Iv r (Pg.new nth (List.replicate (2 + r) 0) none) := by
  refine ⟨by simp [Pg.new], h1, h2, ?_, ⟨0, ?_, by omega, by show (0 : Int) ≤ ((0 : Nat) : Int); omega, fun e => by omega⟩, fun i t k ht hk => ?_⟩
  · show 0 ≤ rd (List.replicate _ 0) 0 ∧ rd (List.replicate _ 0) 0 ≤ ((0 : Nat) : Int)
    rw [rd_zero]; omega
  · show rd (List.replicate _ 0) 1 = _
    rw [rd_zero]
    show (0 : Int) = 0 % 18446744073709551616
    omega
  · have ht' : (List.replicate nth (⟨none, false, -1, 0, 0⟩ : Pt Dt))[i]? = some t := ht
    rw [List.getElem?_replicate] at ht'
    split at ht'
    · cases ht'; cases hk
    · cases ht'
end Go.Proofs.YtnapnhmmopajfaaGreat.Dm
/-
  THE DEQUE's kit made: owners, kit, commonOf.
-/
namespace Go.Proofs.YtnapnhmmopajfaaGreat.Dm
open Go.RowKit Go.Shelf Mr Me Ma Gm
set_option linter.unusedVariables false
set_option linter.unusedSimpArgs false
set_option maxRecDepth 100000
def fK (g ca : Nat) : Value := .func (.func g) #[] #[.pointer (some ⟨ca, 0, none⟩)]
theorem owners_any (g ca : Nat) (w : World) : Calls Tryz.prog 29 #[fK g ca] w fun e w' => e = .returned (fK 47 w.heap.size) ∧ w' = w.alloc (.cells #[fK g ca] 102 (0, 0)) := by
  unfold fK
  go_enter Tryz.func29, Tryz.ntmps29
  go_wp2
  go_ret
  exact ⟨rfl, rfl⟩
theorem run_makeMap (w : World) : (Instr.makeMap 73 none).run Tryz.prog w = .ok (.map (some w.heap.size)) (w.alloc (.map #[] 0)) := by rfl
theorem run_ins1 (w : World) (km : Nat) (v : Value) (h : w.heap[km]? = some (.map #[] 0)) : (Instr.mapUpdate 73 (.map (some km)) (.int .i64 90) v).run Tryz.prog w = .ok () (w.putObj km (.map #[⟨.int .i64 90, v, 0⟩] 1)) := by
  have hch : ∀ b, (Instr.checkKey b 10000 25 (.int .i64 90)).run Tryz.prog w = .ok () w := fun b => by cases b <;> kernel_rfl
  have hget : (getObj km).run Tryz.prog w = .ok (.map #[] 0) w := by simp [getObj, Sem.run, h]
  have hset : ∀ o, (setObj km o).run Tryz.prog w = .ok () (w.putObj km o) := fun o => by simp [setObj, Sem.run, h, World.putObj]
  simp [Instr.mapUpdate, run_underlying Tryz.underlying73, hget, hch, Instr.findKey, run_underlying Tryz.underlying25, Instr.findNow, hset]
theorem run_ins2 (w : World) (km : Nat) (v u : Value) (h : w.heap[km]? = some (.map #[⟨.int .i64 90, v, 0⟩] 1)) : (Instr.mapUpdate 73 (.map (some km)) (.int .i64 91) u).run Tryz.prog w = .ok () (w.putObj km (.map #[⟨.int .i64 90, v, 0⟩, ⟨.int .i64 91, u, 1⟩] 2)) := by
  have hch : ∀ b, (Instr.checkKey b 10000 25 (.int .i64 91)).run Tryz.prog w = .ok () w := fun b => by cases b <;> kernel_rfl
  have hget : (getObj km).run Tryz.prog w = .ok (.map #[⟨.int .i64 90, v, 0⟩] 1) w := by simp [getObj, Sem.run, h]
  have hset : ∀ o, (setObj km o).run Tryz.prog w = .ok () (w.putObj km o) := fun o => by simp [setObj, Sem.run, h, World.putObj]
  simp [Instr.mapUpdate, run_underlying Tryz.underlying73, hget, hch, Instr.findKey, run_underlying Tryz.underlying25, Instr.findNow, Instr.sameNow, hset]
theorem run_ins3 (w : World) (km : Nat) (v u x : Value) (h : w.heap[km]? = some (.map #[⟨.int .i64 90, v, 0⟩, ⟨.int .i64 91, u, 1⟩] 2)) : (Instr.mapUpdate 73 (.map (some km)) (.int .i64 92) x).run Tryz.prog w = .ok () (w.putObj km (.map #[⟨.int .i64 90, v, 0⟩, ⟨.int .i64 91, u, 1⟩, ⟨.int .i64 92, x, 2⟩] 3)) := by
  have hch : ∀ b, (Instr.checkKey b 10000 25 (.int .i64 92)).run Tryz.prog w = .ok () w := fun b => by cases b <;> kernel_rfl
  have hget : (getObj km).run Tryz.prog w = .ok (.map #[⟨.int .i64 90, v, 0⟩, ⟨.int .i64 91, u, 1⟩] 2) w := by simp [getObj, Sem.run, h]
  have hset : ∀ o, (setObj km o).run Tryz.prog w = .ok () (w.putObj km o) := fun o => by simp [setObj, Sem.run, h, World.putObj]
  simp [Instr.mapUpdate, run_underlying Tryz.underlying73, hget, hch, Instr.findKey, run_underlying Tryz.underlying25, Instr.findNow, Instr.sameNow, hset]
def sBox (bc : Nat) : Obj := .cells #[.pointer (some ⟨bc, 0, none⟩)] 74 (0, 0)
def fBox (f : Value) : Obj := .cells #[f] 102 (0, 0)
set_option maxHeartbeats 1000000 in
theorem kit_any (w : World) (bc : Nat) : Calls Tryz.prog 20 #[.pointer (some ⟨bc, 0, none⟩)] w fun e w' => e = .returned (.map (some (w.heap.size + 1))) ∧ KA bc w.heap.size (w.heap.size + 2) (w.heap.size + 3) w' (fun k => w.heap.size ≤ k ∧ k < w'.heap.size) (w.heap.size + 1) ∧ Below w.heap.size w w' := by
  have hmf : ∀ (fn : Fn) (first cap : Array Value) (w : World), (Instr.makeFunc fn first cap).run Tryz.prog w = .ok (.func fn first cap) w := fun _ _ _ _ => rfl
  obtain ⟨W1, hW1⟩ : ∃ W1, w.alloc (sBox bc) = W1 := ⟨_, rfl⟩
  have s1 : W1.heap.size = w.heap.size + 1 := by rw [← hW1]; simp
  have b1 : W1.heap[w.heap.size]? = some (sBox bc) := by rw [← hW1]; exact heap_alloc_new w _
  have B1 : Below w.heap.size w W1 := by rw [← hW1]; exact (Below.refl _ _).alloc (Nat.le_refl _) _
  obtain ⟨W2, hW2⟩ : ∃ W2, W1.alloc (.map #[] 0) = W2 := ⟨_, rfl⟩
  have s2 : W2.heap.size = w.heap.size + 2 := by rw [← hW2]; simp [s1]
  have g2 : W2.heap[w.heap.size + 1]? = some (.map #[] 0) := by rw [← hW2, ← s1]; exact heap_alloc_new W1 _
  have B2 : Below (w.heap.size + 1) W1 W2 := by rw [← hW2]; exact (Below.refl _ _).alloc (by omega) _
  have m0 := run_makeMap W1
  rw [hW2, s1] at m0
  have O1 := owners_any 30 w.heap.size W2
  obtain ⟨W3, hW3⟩ : ∃ W3, W2.alloc (fBox (fK 30 w.heap.size)) = W3 := ⟨_, rfl⟩
  have s3 : W3.heap.size = w.heap.size + 3 := by rw [← hW3]; simp [s2]
  have f3 : W3.heap[w.heap.size + 2]? = some (fBox (fK 30 w.heap.size)) := by rw [← hW3, ← s2]; exact heap_alloc_new W2 _
  have g3 : W3.heap[w.heap.size + 1]? = some (.map #[] 0) := by rw [← hW3]; exact (Below.heap_alloc _ _ _ (by omega)).trans g2
  have B3 : Below (w.heap.size + 1) W1 W3 := by rw [← hW3]; exact B2.alloc (by omega) _
  have e3 : W2.alloc (.cells #[fK 30 w.heap.size] 102 (0, 0)) = W3 := hW3
  rw [e3, s2] at O1
  have put : ∀ (V : World) (o : Obj), w.heap.size + 1 < V.heap.size → Below (w.heap.size + 1) W1 V → (V.putObj (w.heap.size + 1) o).heap.size = V.heap.size ∧ (V.putObj (w.heap.size + 1) o).heap[w.heap.size + 1]? = some o ∧ Below (w.heap.size + 1) W1 (V.putObj (w.heap.size + 1) o) ∧ ∀ k, k ≠ w.heap.size + 1 → (V.putObj (w.heap.size + 1) o).heap[k]? = V.heap[k]? := fun V o hs hB => by
    refine ⟨by simp [World.putObj], World.putObj_heap_same hs, ⟨hB.os, hB.tape, hB.output, by have := hB.size; simp only [World.putObj, Array.size_setIfInBounds]; omega, fun k hk => (World.putObj_heap_other (by omega)).trans (hB.block k hk)⟩, fun k hk => World.putObj_heap_other hk⟩
  have i1 := run_ins1 W3 (w.heap.size + 1) (fK 47 (w.heap.size + 2)) g3
  obtain ⟨s4, g4, B4, k4⟩ := put W3 (.map #[⟨.int .i64 90, fK 47 (w.heap.size + 2), 0⟩] 1) (by omega) B3
  generalize W3.putObj (w.heap.size + 1) (.map #[⟨.int .i64 90, fK 47 (w.heap.size + 2), 0⟩] 1) = W4 at *
  have O2 := owners_any 32 w.heap.size W4
  obtain ⟨W5, hW5⟩ : ∃ W5, W4.alloc (fBox (fK 32 w.heap.size)) = W5 := ⟨_, rfl⟩
  have s5 : W5.heap.size = w.heap.size + 4 := by rw [← hW5]; simp [s4, s3]
  have f5 : W5.heap[w.heap.size + 3]? = some (fBox (fK 32 w.heap.size)) := by rw [← hW5, ← s3, ← s4]; exact heap_alloc_new W4 _
  have g5 : W5.heap[w.heap.size + 1]? = some (.map #[⟨.int .i64 90, fK 47 (w.heap.size + 2), 0⟩] 1) := by rw [← hW5]; exact (Below.heap_alloc _ _ _ (by omega)).trans g4
  have f5' : W5.heap[w.heap.size + 2]? = some (fBox (fK 30 w.heap.size)) := by rw [← hW5]; exact (Below.heap_alloc _ _ _ (by omega)).trans ((k4 _ (by omega)).trans f3)
  have B5 : Below (w.heap.size + 1) W1 W5 := by rw [← hW5]; exact B4.alloc (by omega) _
  have e5 : W4.alloc (.cells #[fK 32 w.heap.size] 102 (0, 0)) = W5 := hW5
  rw [e5, s4, s3] at O2
  have i2 := run_ins2 W5 (w.heap.size + 1) _ (fK 47 (w.heap.size + 3)) g5
  obtain ⟨s6, g6, B6, k6⟩ := put W5 (.map #[⟨.int .i64 90, fK 47 (w.heap.size + 2), 0⟩, ⟨.int .i64 91, fK 47 (w.heap.size + 3), 1⟩] 2) (by omega) B5
  generalize W5.putObj (w.heap.size + 1) (.map #[⟨.int .i64 90, fK 47 (w.heap.size + 2), 0⟩, ⟨.int .i64 91, fK 47 (w.heap.size + 3), 1⟩] 2) = W6 at *
  have i3 := run_ins3 W6 (w.heap.size + 1) _ _ (fK 34 w.heap.size) g6
  obtain ⟨s7, g7, B7, k7⟩ := put W6 (.map #[⟨.int .i64 90, fK 47 (w.heap.size + 2), 0⟩, ⟨.int .i64 91, fK 47 (w.heap.size + 3), 1⟩, ⟨.int .i64 92, fK 34 w.heap.size, 2⟩] 3) (by omega) B6
  generalize W6.putObj (w.heap.size + 1) (.map #[⟨.int .i64 90, fK 47 (w.heap.size + 2), 0⟩, ⟨.int .i64 91, fK 47 (w.heap.size + 3), 1⟩, ⟨.int .i64 92, fK 34 w.heap.size, 2⟩] 3) = W7 at *
  have fin : KA bc w.heap.size (w.heap.size + 2) (w.heap.size + 3) W7 (fun k => w.heap.size ≤ k ∧ k < W7.heap.size) (w.heap.size + 1) ∧ Below w.heap.size w W7 := by
    have hb := (B7.block w.heap.size (by omega)).trans b1
    have h2 := (k7 _ (by omega)).trans ((k6 _ (by omega)).trans f5')
    have h3 := (k7 _ (by omega)).trans ((k6 _ (by omega)).trans f5)
    refine ⟨⟨g7, cell_at hb 0, cell_at h2 0, cell_at h3 0, ⟨by omega, by omega⟩, ⟨by omega, by omega⟩, ⟨by omega, by omega⟩, ⟨by omega, by omega⟩⟩, B1.trans (B7.mono (by omega))⟩
  replace fin := Mr.hid fin
  simp only [fK] at i1 i2 i3 O1 O2
  unfold sBox at hW1
  clear put b1 B1 B2 B3 B4 B5 B6 B7 g2 g3 g4 g5 g6 g7 f3 f5 f5' k4 k6 k7 hW3 hW5 e3 e5 s3 s4 s5 s6 s7
  go_enter Tryz.func20, Tryz.ntmps20
  go_wp2_with (first | (go_at_call 29; first | (refine O1.mono ?_; clear O1; rintro e w' ⟨rfl, hw⟩; obtain rfl := hw.symm) | (refine O2.mono ?_; clear O2; rintro e w' ⟨rfl, hw⟩; obtain rfl := hw.symm)))
  go_ret
  exact ⟨rfl, fin.out⟩
end Go.Proofs.YtnapnhmmopajfaaGreat.Dm
