import Derived.Test.YtmmjdlbeiaoojaaGreatArOnceP
/-
  The pure part of ArenaAlone: how many steps a call needs that is stepped alone.
-/
namespace Go.Proofs.YtmmjdlbeiaoojaaGreat.Ar
open Go.RowKit Go.Shelf Mr Me Ma Wc Wm Wr
/-- Steps that are left to a giver with its slot. -/
def muG (P : Pa) (k : Pk) : Nat := if k.nx = 5 then 3 else if k.nx = 7 then (if k.hd = P.word 0 then 2 else 5) else (if k.hd = P.word 0 then 1 else 4)
def muT (P : Pa) (k : Pk) : Nat := if k.nx = 5 then 3 else if k.nx = 6 then (if k.hd = P.word 0 then 2 else 5) else (if k.hd = P.word 0 then 1 else 4)
def muK (P : Pa) (i : Nat) (fr : Bool) (kd : Kd) (k : Pk) : Nat := match kd with
  | .take => if fr = true then 3 else muT P k
  | .give => if fr = true then 3 else muG P k
  | .flush => if fr = true then 3 * (P.A.cache i).length + 1 else muG P k + 3 * ((P.A.cache i).length - 1)
def mu (P : Pa) (i : Nat) : Nat := match P.pts[i]? with
  | none => 0
  | some t => match t.tk with
    | none => 0
    | some (kd, k) => muK P i t.fr kd k
def opAt (P : Pa) (i : Nat) : Int := match P.pts[i]? with
  | none => 0
  | some t => if t.call = -1 then 0 else (match P.cls[t.call.toNat]? with
    | none => 0
    | some x => x.op)
def busy (P : Pa) (i : Nat) : Bool := match P.pts[i]? with
  | none => false
  | some t => t.tk.isSome
section
variable {P : Pa} {b i : Nat}
theorem muG_le (P : Pa) (k : Pk) : 1 ≤ muG P k ∧ muG P k ≤ 5 := by unfold muG; (repeat' split) <;> omega
theorem muT_le (P : Pa) (k : Pk) : 1 ≤ muT P k ∧ muT P k ≤ 5 := by unfold muT; (repeat' split) <;> omega
theorem stepG {now : Int} {k : Pk} {fl : Bool} (hm : 0 < P.m) (hg : Gv P k) : ((givP P i now k fl).2.2 = false → P.word 0 ≠ k.hd ∨ k.nx ≠ 8 → muG (givP P i now k fl).1 (givP P i now k fl).2.1 + 1 ≤ muG P k ∧ (givP P i now k fl).1.A = P.A) := by
  intro he hn
  unfold givP at *
  rcases hg with h5 | ⟨h7, _⟩ | ⟨h8, _, _⟩
  · simp only [if_pos h5] at *
    refine ⟨?_, rfl⟩
    have : (P.load i now 0).word 0 = P.word 0 := rfl
    simp [muG, h5, this]
  · simp only [if_neg (show ¬ k.nx = 5 by omega), if_pos h7] at *
    refine ⟨?_, rfl⟩
    have : (P.store i now (P.spare k.sl) (firstOf k.hd + 1)).word 0 = P.word 0 := by
      simp only [Pa.word, Pa.store, List.getElem?_set]
      rw [if_neg (by unfold Pa.spare; omega)]
    simp only [muG, this, h7]
    simp
    split <;> omega
  · simp only [if_neg (show ¬ k.nx = 5 by omega), if_neg (show ¬ k.nx = 7 by omega)] at *
    by_cases hw : P.word 0 = k.hd
    · omega
    · simp only [if_neg hw] at *
      refine ⟨?_, rfl⟩
      have hw' : ¬ k.hd = P.word 0 := fun e => hw e.symm
      simp [muG, h8, hw']
theorem mu_step (h : Inv P b) {now : Int} {t : At} {kd : Kd} {k : Pk} (ht : P.pts[i]? = some t) (hk : t.tk = some (kd, k)) : (P.work i now t.fr kd k).2.2 = true ∨ muK (P.work i now t.fr kd k).1 i false kd (P.work i now t.fr kd k).2.1 + 1 ≤ muK P i t.fr kd k := by
  have hi : i < P.pts.length := (List.getElem?_eq_some_iff.1 ht).1
  have hT := h.th i t kd k ht hk
  have key : ∀ k', Tok P i false kd k' → (P.stepP i now k' kd).2.2 = true ∨ muK (P.stepP i now k' kd).1 i false kd (P.stepP i now k' kd).2.1 + 1 ≤ muK P i false kd k' := by
    intro k' hT'
    cases kd with
    | take =>
      obtain ⟨t0, t1⟩ := hT'
      simp only [Bool.false_eq_true, if_false] at t1
      obtain ⟨t1, t2⟩ := t1
      simp only [muK, Bool.false_eq_true, if_false, Pa.stepP]
      rcases t2 with t2 | ⟨t2, t3, t4, t5, t6⟩
      · by_cases hh : P.A.has (firstOf (P.word 0))
        · simp only [if_pos t2, if_pos hh]
          right
          have : (P.load i now 0).word 0 = P.word 0 := rfl
          simp [muT, t2, this]
        · simp only [if_pos t2, if_neg hh]
          exact .inl trivial
      · rcases t2 with t2 | t2
        · simp only [if_neg (show ¬ k'.nx = 5 by omega), if_pos t2]
          right
          have : (P.load i now (P.spare k'.sl)).word 0 = P.word 0 := rfl
          simp only [muT, t2, this]
          simp
          split <;> omega
        · by_cases hw : P.word 0 = k'.hd
          · simp only [if_neg (show ¬ k'.nx = 5 by omega), if_neg (show ¬ k'.nx = 6 by omega), if_pos hw]
            exact .inl trivial
          · simp only [if_neg (show ¬ k'.nx = 5 by omega), if_neg (show ¬ k'.nx = 6 by omega), if_neg hw]
            right
            have hw' : ¬ k'.hd = P.word 0 := fun e => hw e.symm
            simp [muT, t2, hw']
    | give =>
      rw [stepP_give]
      simp only [muK, Bool.false_eq_true, if_false]
      obtain ⟨t1, t2, t3⟩ := hT'
      simp only [Bool.false_eq_true, if_false] at t3
      cases he : (givP P i now k' false).2.2 with
      | true => exact .inl rfl
      | false =>
        right
        refine (stepG h.m0 t3 he ?_).1
        by_cases hw : P.word 0 = k'.hd
        · right
          intro h8
          simp [givP, h8, hw] at he
        · exact .inl hw
    | flush =>
      rw [stepP_flush]
      simp only [muK, Bool.false_eq_true, if_false]
      simp only [Tok, Bool.false_eq_true, if_false] at hT'
      obtain ⟨t1, t2, t3⟩ := hT'
      have hc := h.cacheEq hi
      cases he : (givP P i now k' true).2.2 with
      | true => exact .inl rfl
      | false =>
        right
        by_cases hn : P.word 0 ≠ k'.hd ∨ k'.nx ≠ 8
        · obtain ⟨g1, g2⟩ := stepG h.m0 t3 he hn
          rw [g2]
          omega
        · have hw : P.word 0 = k'.hd := by omega
          have h8 : k'.nx = 8 := by omega
          have hlen : i < P.A.ca.length := (List.getElem?_eq_some_iff.1 hc).1
          have hL : 0 < (P.A.cache i).length := by
            rcases hcc : P.A.cache i with _ | ⟨x, l⟩
            · rw [hcc] at t2; simp at t2
            · simp
          have e1 : muG P k' = 1 := by simp [muG, h8, hw]
          rw [e1]
          have e2 : givP P i now k' true = ((P.hit i now 0 k'.hd (headBehind k'.hd k'.sl)).shift i now k'.sl 0).next i k' := by simp [givP, h8, hw]
          rw [e2] at he ⊢
          have e3 : (((P.hit i now 0 k'.hd (headBehind k'.hd k'.sl)).shift i now k'.sl 0).next i k').1.A.cache i = (P.A.cache i).dropLast := by
            have : (((P.hit i now 0 k'.hd (headBehind k'.hd k'.sl)).shift i now k'.sl 0).next i k').1.A.ca = P.A.ca.set i (P.A.cache i).dropLast := by
              simp only [Pa.next]
              split <;> rfl
            simp only [Ao.cache, this, List.getElem?_set]
            simp [hlen]
          have e4 : (((P.hit i now 0 k'.hd (headBehind k'.hd k'.sl)).shift i now k'.sl 0).next i k').2.1.nx = 5 := by
            simp only [Pa.next] at he ⊢
            split at he
            · cases he
            · rename_i hn
              rw [if_neg hn]
          have e5 : muG (((P.hit i now 0 k'.hd (headBehind k'.hd k'.sl)).shift i now k'.sl 0).next i k').1 (((P.hit i now 0 k'.hd (headBehind k'.hd k'.sl)).shift i now k'.sl 0).next i k').2.1 = 3 := by unfold muG; rw [if_pos e4]
          have e6 : (P.A.cache i).length ≥ 2 := by
            simp only [Pa.next] at he
            split at he
            · cases he
            · rename_i hn
              rcases hcc : P.A.cache i with _ | ⟨x, _ | ⟨y, l⟩⟩
              · rw [hcc] at hL; simp at hL
              · exfalso
                apply hn
                have hcc' : P.A.ca[i] = [x] := by
                  have := (List.getElem?_eq_some_iff.1 hc).2
                  rw [this, hcc]
                simp [Ao.last, Ao.cache, Pa.keep, Ao.keep, Pa.shift, Pa.hit, Ao.put, hcc', hlen]
              · simp
          rw [e5, e3, List.length_dropLast]
          omega
  unfold Pa.work
  cases hf : t.fr with
  | false => rw [if_neg (by decide)]; rw [hf] at hT; exact key k hT
  | true =>
    rw [hf] at hT
    rw [if_pos rfl]
    cases he : (P.ready i now k kd).2.2 with
    | true => simp only [he, if_true]; exact .inl trivial
    | false =>
      simp only [he, Bool.false_eq_true, if_false]
      obtain ⟨e1, e2⟩ := ready_no h hi hT he
      rw [e1]
      rcases key _ e2 with r | r
      · exact .inl r
      · right
        refine Nat.le_trans r ?_
        cases kd with
        | take =>
          have : (P.ready i now k .take).2.1.nx = 5 := by
            simp only [Pa.ready] at he ⊢
            split at he
            · rename_i hn; rw [if_pos hn]
            · cases he
          simp [muK, muT, this]
        | give =>
          have : (P.ready i now k .give).2.1.nx = 5 := by
            simp only [Pa.ready] at he ⊢
            split at he
            · cases he
            · rename_i hn; rw [if_neg hn]
          simp [muK, muG, this]
        | flush =>
          have : (P.ready i now k .flush).2.1.nx = 5 := by
            simp only [Pa.ready] at he ⊢
            split at he
            · cases he
            · rename_i hn; rw [if_neg hn]
          have hL : 0 < (P.A.cache i).length := by
            simp only [Tok, Bool.false_eq_true, if_false] at e2
            rcases hcc : P.A.cache i with _ | ⟨x, l⟩
            · have := e2.2.1; rw [hcc] at this; simp at this
            · simp
          simp only [muK, muG, this]
          simp
          omega
/-- A step of a busy thread: it ends, or fewer are left. -/
theorem mu_move (h : Inv P P.n) (hn : P.n < 65536) (hB : busy P i = true) (arg data : Int) : busy (P.move i 0 arg data).1 i = false ∨ (mu (P.move i 0 arg data).1 i + 1 ≤ mu P i) := by
  unfold busy at hB
  cases ht : P.pts[i]? with
  | none => rw [ht] at hB; cases hB
  | some t =>
    rw [ht] at hB
    have hi : i < P.pts.length := (List.getElem?_eq_some_iff.1 ht).1
    cases hk : t.tk with
    | none => simp [hk] at hB
    | some kk =>
      obtain ⟨kd, k⟩ := kk
      have hmu : mu P i = muK P i t.fr kd k := by simp [mu, ht, hk]
      have hm := mu_step (P := P.count) (now := (P.n : Int)) h.count ht hk
      have hR := (work_core (P := P.count) (now := (P.n : Int)) h.count hn hi (h.count.th i t kd k ht hk)).1.pts
      have e0 : (P.move i 0 arg data).1 = (P.count.step i t P.n).1 := by
        unfold Pa.move
        rw [if_neg (by omega), if_pos (by omega)]
        simp only [Int.toNat_natCast]
        rw [ht]
        simp
      rw [e0]
      simp only [Pa.step, hk]
      generalize P.count.work i P.n t.fr kd k = r at *
      have hr : i < r.1.pts.length := by rw [hR]; exact hi
      cases he : r.2.2 with
      | true =>
        left
        simp [busy, hr]
      | false =>
        right
        rcases hm with hm | hm
        · rw [he] at hm; cases hm
        · simp only [Bool.false_eq_true, if_false]
          have e1 : mu { r.1 with pts := r.1.pts.set i ⟨some (kd, r.2.1), false, t.call⟩ } i = muK { r.1 with pts := r.1.pts.set i ⟨some (kd, r.2.1), false, t.call⟩ } i false kd r.2.1 := by simp [mu, hr]
          rw [e1, hmu]
          exact hm
/-- How many there may be. -/
theorem mu_le {bo : Int} (h : Inv P b) (hO : On P bo) (hB : busy P i = true) : mu P i ≤ if opAt P i = 12 then 3 * (P.A.cache i).length + 3 else 5 := by
  unfold busy at hB
  cases ht : P.pts[i]? with
  | none => rw [ht] at hB; cases hB
  | some t =>
    rw [ht] at hB
    have hi : i < P.pts.length := (List.getElem?_eq_some_iff.1 ht).1
    cases hk : t.tk with
    | none => simp [hk] at hB
    | some kk =>
      obtain ⟨kd, k⟩ := kk
      have hT := h.th i t kd k ht hk
      obtain ⟨c, z, h1, h2, h3, h4, h5, h6⟩ := hO.th i t kd k ht hk
      have hmu : mu P i = muK P i t.fr kd k := by simp [mu, ht, hk]
      have ho : opAt P i = z.op := by
        simp only [opAt, ht, h1]
        rw [if_neg (by omega), Int.toNat_natCast, h2]
      rw [hmu, ho]
      have g1 := muG_le P k
      have g2 := muT_le P k
      cases kd with
      | take =>
        have : z.op = 10 := h5
        rw [if_neg (by omega)]
        simp only [muK]
        split <;> omega
      | give =>
        have : z.op = 11 := h5.1
        rw [if_neg (by omega)]
        simp only [muK]
        split <;> omega
      | flush =>
        have : z.op = 12 := h5
        rw [if_pos this]
        simp only [muK]
        split
        · omega
        · rename_i hf
          have hL : 0 < (P.A.cache i).length := by
            simp only [Tok, if_neg hf] at hT
            rcases hcc : P.A.cache i with _ | ⟨x, l⟩
            · have := hT.2.1; rw [hcc] at this; simp at this
            · simp
          omega
end
end Go.Proofs.YtmmjdlbeiaoojaaGreat.Ar
