/-
  The document's Free; that both say the same; SameInts, kept, num.
-/
import Derived.Test.YtdggempcfmihpaaPlRef
import Derived.BigQuiet
namespace Go.Proofs.Ytdggempcfmihpaa.Pl
open Go.RowKit Mr Me Wp Wc Wm
set_option linter.unusedVariables false
set_option linter.unusedSimpArgs false
def frS (o : Option (List Int)) : List Int × Int := match o with | some l => (l, 0) | none => ([], 100)
theorem same_free (c : C7) (ws : List Int) (hb : ∀ x ∈ ws, 0 ≤ x ∧ x ≤ 18446744073709551615) : frS (spr c ws) = frA c ws := by
  have hin : ∀ j, 0 ≤ wat ws j := fun j => by
    unfold wat
    cases e : ws[j]? with
    | none => simp
    | some x => exact (hb x (List.mem_of_getElem? e)).1
  unfold spr frA fre
  by_cases hu : wat ws 0 % 4294967296 ≤ 2147483647
  · rw [if_pos hu, if_pos hu]
    have hc : (vz c.a5.toNat).cm.count false = c.a5.toNat := by simp [vz]
    rw [hc]
    have hge := nxt_ge (wat ws 0) (hin 0)
    generalize c.a5.toNat = n at *
    rcases ent_step (vz n) (nxt (wat ws 0)) hge with ⟨h1, h2⟩ | ⟨h0, h1, h2, h3⟩
    · rw [h1, alg_end]
      rcases h2 with ⟨h2, h3⟩ | h2
      · rw [h2, h3, rch_end _ _ _ _ _ (by decide)]
        simp [frS, vz]
      · rw [h2]
        have hne : ¬ nxt (wat ws 0) = -1 := fun e => by
          have : (vz n).ent (nxt (wat ws 0)) = (-1, vz n) := by rw [e]; simp [Vs.ent]
          rw [this] at h2
          have h4 := congrArg Vs.od h2
          simp [vz, Vs.bad] at h4
        have hf : ¬ (vz n).cm[(nxt (wat ws 0)).toNat]? = some false := fun e => by
          have : (vz n).ent (nxt (wat ws 0)) = (nxt (wat ws 0), (vz n).put (nxt (wat ws 0)).toNat) := by unfold Vs.ent; rw [if_neg hne, if_pos e]
          rw [this] at h1
          exact hne h1
        have hlt : ¬ nxt (wat ws 0) < 0 := by omega
        have e1 : rch (wdr c ws 10) false (n + 1) (List.replicate n false) (nxt (wat ws 0)) = (none, List.replicate n false) := by
          rw [rch, if_neg hlt]; exact if_neg hf
        rw [e1]
        simp [frS, Vs.bad]
    · rw [h1, h3]
      rcases both (wdr c ws 10) (fun j => hin _) false n (vz n) (nxt (wat ws 0)) h0 h2 (by rw [hc]; exact Nat.le_refl _) with ⟨l, r1, r2, r3⟩ | ⟨r1, r2⟩
      · rw [show (List.replicate n false) = (vz n).cm from rfl, r1, r2, r3]
        simp [frS, vz]
      · rw [show (List.replicate n false) = (vz n).cm from rfl, r1, r2]
        simp [frS]
  · rw [if_neg hu, if_neg hu]
    simp [frS, Vs.bad]
section
variable {W : World} {c : C7} {aw : Addr} {a : Option Addr} {n cap : Nat} {ws : List Int}
set_option maxHeartbeats 2000000 in
theorem refused_any : Calls Try.prog 16 #[c.val, .slice a n cap] W fun e w' => e = .returned (.int .i64 (if c.ok then (if (n : Int) = c.at 14 then 0 else 2) else 1)) ∧ Below W.heap.size W w' := by
  have CF := fun W => refConfig c.a0 c.a1 c.a2 c.a3 c.a4 c.a5 c.a6 W
  rw [show cfgB c.a0 c.a1 c.a2 c.a3 c.a4 c.a5 c.a6 = c.ok from rfl] at CF
  have bB := fun o : Obj => (Below.refl W.heap.size W).alloc (Nat.le_refl _) o
  have ewB : ∀ w', Below (W.heap.size + 1) (W.alloc (cfB c)) w' → w'.heap[W.heap.size]? = some (cfB c) := fun w' hB => (hB.block _ (by omega)).trans (heap_alloc_new W _)
  cases hc : c.ok with
  | false =>
    rw [hc] at CF
    simp only [if_false, Bool.false_eq_true]
    clear hc
    unfold C7.val
    replace CF := Mr.hid CF
    replace bB := Mr.hid bB
    go_enter Try.func16, Try.ntmps16
    go_wp2_with (go_at_call 38; refine (CF.out _).mono ?_; rintro e w1 ⟨rfl, hB1⟩; replace hB1 := Mr.hid ((bB.out _).trans (hB1.mono (by simp))))
    go_ret
    exact ⟨rfl, hB1.out⟩
  | true =>
    have SZ := fun W => refSize c.a0 c.a1 c.a2 c.a3 c.a4 c.a5 c.a6 W (ok_of (show cfgB c.a0 c.a1 c.a2 c.a3 c.a4 c.a5 c.a6 = true from hc))
    rw [show base c.a1 c.a2 c.a5 c.a6 14 = c.at 14 from rfl] at SZ
    rw [hc] at CF
    simp only [if_true]
    clear hc
    generalize c.at 14 = z at *
    unfold C7.val
    unfold cfB at ewB
    replace CF := Mr.hid CF
    replace SZ := Mr.hid SZ
    replace bB := Mr.hid bB
    have cel := fun (w' : World) (h : w'.heap[W.heap.size]? = some (cfB c)) => cfB_cells h
    unfold cfB at cel
    replace cel := Mr.hid cel
    replace ewB := Mr.hid ewB
    by_cases hz : (n : Int) = z
    · have d : ((n : Int) != z) = false := by simpa using hz
      rw [if_pos hz]
      clear hz
      go_enter Try.func16, Try.ntmps16
      go_wp2_with (first | (go_at_call 38; refine (CF.out _).mono ?_; rintro e w1 ⟨rfl, hB1⟩; simp only [World.size_alloc] at hB1; obtain ⟨y0, y1, y2, y3, y4, y5, y6, y7⟩ := cel.out w1 (ewB.out w1 hB1); replace hB1 := Mr.hid ((bB.out _).trans (hB1.mono (by omega)))) | (go_at_call 39; refine (SZ.out _).mono ?_; rintro e w2 ⟨rfl, hB2⟩; replace hB2 := Mr.hid (hB1.out.trans (hB2.mono hB1.out.size))))
      go_ret
      exact ⟨rfl, hB2.out⟩
    · have d : ((n : Int) != z) = true := by simpa using hz
      rw [if_neg hz]
      clear hz
      go_enter Try.func16, Try.ntmps16
      go_wp2_with (first | (go_at_call 38; refine (CF.out _).mono ?_; rintro e w1 ⟨rfl, hB1⟩; simp only [World.size_alloc] at hB1; obtain ⟨y0, y1, y2, y3, y4, y5, y6, y7⟩ := cel.out w1 (ewB.out w1 hB1); replace hB1 := Mr.hid ((bB.out _).trans (hB1.mono (by omega)))) | (go_at_call 39; refine (SZ.out _).mono ?_; rintro e w2 ⟨rfl, hB2⟩; replace hB2 := Mr.hid (hB1.out.trans (hB2.mono hB1.out.size))))
      go_ret
      exact ⟨rfl, hB2.out⟩
/-- What the document's Free answers. -/
def frR (c : C7) (ws : List Int) : List Int × Int := if c.ok then (if (ws.length : Int) = c.at 14 then frS (spr c ws) else ([], 2)) else ([], 1)
theorem frR_eq (c : C7) (ws : List Int) (hb : ∀ x ∈ ws, 0 ≤ x ∧ x ≤ 18446744073709551615) : frR c ws = frE c ws := by unfold frR frE; rw [same_free c ws hb]
set_option maxHeartbeats 4000000 in
theorem refFree_any (hr : Rds W a n ws) : Calls Try.prog 6 #[c.val, .slice a n cap] W fun e w' => ∃ va, e = .returned (.tuple #[va, .int .i64 (frR c ws).2]) ∧ Has w' (fun k => W.heap.size ≤ k) 3 1 va (frR c ws).1.length (ints (frR c ws).1) ∧ Below W.heap.size W w' := by
  have hn := hr.1
  have RF := fun W => refused_any (W := W) (c := c) (a := a) (n := n) (cap := cap)
  have bB := fun o : Obj => (Below.refl W.heap.size W).alloc (Nat.le_refl _) o
  have ewB : ∀ w', Below (W.heap.size + 1) (W.alloc (cfB c)) w' → w'.heap[W.heap.size]? = some (cfB c) := fun w' hB => (hB.block _ (by omega)).trans (heap_alloc_new W _)
  have cel := fun (w' : World) (h : w'.heap[W.heap.size]? = some (cfB c)) => cfB_cells h
  unfold frR
  by_cases hc : c.ok = true
  · rw [if_pos hc]
    by_cases hl : (ws.length : Int) = c.at 14
    · rw [if_pos hl]
      simp only [hc, if_true, hn, hl] at RF
      have hok := ok_of (show cfgB c.a0 c.a1 c.a2 c.a3 c.a4 c.a5 c.a6 = true from hc)
      have hl0 : 0 < ws.length := by
        have m := bmono hok 13 14 (by omega) (by omega)
        have m2 := many_bd hok ((13 : Nat) : Int)
        have b := base_bd hok 13
        unfold C7.at at hl
        omega
      obtain ⟨aw, rfl⟩ : ∃ aw, a = some aw := by
        cases a with
        | none => have := hr.2.1 rfl; omega
        | some aw => exact ⟨aw, rfl⟩
      have hw := hr.2.2 aw rfl
      have SPA := fun w' (hB : Below W.heap.size W w') => spares_any (W := w') hc hl (hw.fr (S := fun _ => False) (Fr.of_below hB) (fun e => e)) cap
      rw [hn]
      clear hl hw hok hr hn hl0
      generalize hsp : spr c ws = so at *
      clear hsp
      unfold C7.val at RF SPA ⊢
      unfold cfB at cel ewB
      generalize ws.length = N at *
      replace RF := Mr.hid RF
      replace SPA := Mr.hid SPA
      replace bB := Mr.hid bB
      replace cel := Mr.hid cel
      replace ewB := Mr.hid ewB
      cases so with
      | none =>
        simp only [frS, Option.isSome_none, Option.getD_none] at SPA ⊢
        go_enter Try.func6, Try.ntmps6
        go_wp2_with (first | (go_at_call 16; refine (RF.out _).mono ?_; clear RF; rintro e w1 ⟨rfl, hB1⟩; simp only [World.size_alloc] at hB1; obtain ⟨y0, y1, y2, y3, y4, y5, y6, y7⟩ := cel.out w1 (ewB.out w1 hB1); replace hB1 := Mr.hid ((bB.out _).trans (hB1.mono (by omega)))) | (go_at_call 17; refine (SPA.out _ hB1.out).mono ?_; clear SPA; rintro e w2 ⟨va, rfl, hva, hB2⟩; replace hB2 := Mr.hid (hB1.out.trans (hB2.mono hB1.out.size)); clear hva))
        go_ret2
        exact ⟨_, rfl, Has.nil _ _ _ _, hB2.out⟩
      | some l =>
        simp only [frS, Option.isSome_some, Option.getD_some] at SPA ⊢
        go_enter Try.func6, Try.ntmps6
        go_wp2_with (first | (go_at_call 16; refine (RF.out _).mono ?_; clear RF; rintro e w1 ⟨rfl, hB1⟩; simp only [World.size_alloc] at hB1; obtain ⟨y0, y1, y2, y3, y4, y5, y6, y7⟩ := cel.out w1 (ewB.out w1 hB1); replace hB1 := Mr.hid ((bB.out _).trans (hB1.mono (by omega)))) | (go_at_call 17; refine (SPA.out _ hB1.out).mono ?_; clear SPA; rintro e w2 ⟨va, rfl, hva, hB2⟩; have hz := hB1.out.size; replace hB2 := Mr.hid (hB1.out.trans (hB2.mono hB1.out.size)); replace hva := Mr.hid (hva.mono (T := fun k => W.heap.size ≤ k) (fun k hk => Nat.le_trans hz hk))))
        go_ret2
        exact ⟨_, rfl, hva.out, hB2.out⟩
    · rw [if_neg hl]
      simp only [hc, if_true, hn, hl, if_false] at RF
      rw [hn]
      unfold C7.val at RF ⊢
      clear hl hr hn cel ewB
      replace RF := Mr.hid RF
      replace bB := Mr.hid bB
      go_enter Try.func6, Try.ntmps6
      go_wp2_with (go_at_call 16; refine (RF.out _).mono ?_; clear RF; rintro e w1 ⟨rfl, hB1⟩; replace hB1 := Mr.hid ((bB.out _).trans (hB1.mono (by simp))))
      go_ret2
      exact ⟨_, rfl, Has.nil _ _ _ _, hB1.out⟩
  · rw [if_neg hc]
    simp only [hc, if_false] at RF
    unfold C7.val at RF ⊢
    clear hr hn cel ewB
    replace RF := Mr.hid RF
    replace bB := Mr.hid bB
    go_enter Try.func6, Try.ntmps6
    go_wp2_with (go_at_call 16; refine (RF.out _).mono ?_; clear RF; rintro e w1 ⟨rfl, hB1⟩; replace hB1 := Mr.hid ((bB.out _).trans (hB1.mono (by simp))))
    go_ret2
    exact ⟨_, rfl, Has.nil _ _ _ _, hB1.out⟩
end
end Go.Proofs.Ytdggempcfmihpaa.Pl
