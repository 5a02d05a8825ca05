import Derived.Test.YtmmjdlbeiaoojaaGreatJ37
/-
  The pure part of ArenaSwaps: what a log tells of the swaps of Free.
-/
namespace Go.Proofs.YtmmjdlbeiaoojaaGreat.Ar
open Go.RowKit Go.Shelf Mr Me Ma Wc Wm Wr
/-- What the law's loop has come to. -/
structure Sws where
  tag : Int
  last : Int
  ld : List Int
  ix : Int
  ok : Bool
def Sws.step (nt : Nat) (s : Sws) (a : Acc) : Sws :=
  if ¬ (0 ≤ a.th ∧ a.th < nt) then { s with ix := s.ix + 1, ok := false }
  else if a.ad ≠ 0 then { s with ix := s.ix + 1 }
  else if a.kd = 1 then { s with ld := s.ld.set a.th.toNat s.ix, ix := s.ix + 1, ok := s.ok && decide (a.saw / 4294967296 = s.tag) }
  else if a.kd = 3 then
    if a.saw = a.old then { s with tag := s.tag + 1, last := s.ix, ix := s.ix + 1, ok := s.ok && decide (a.new / 4294967296 = s.tag + 1) }
    else { s with ix := s.ix + 1, ok := s.ok && decide (¬ s.last < s.ld[a.th.toNat]?.getD 0) }
  else { s with ix := s.ix + 1, ok := false }
def sws (nt : Nat) (l : List Acc) : Sws := l.foldl (Sws.step nt) ⟨0, -1, List.replicate nt 0, 0, true⟩
theorem sws_snoc (nt : Nat) (l : List Acc) (a : Acc) : sws nt (l ++ [a]) = (sws nt l).step nt a := by simp [sws]
/-- What one step has done to the log and to Free. -/
inductive Lw (P : Pa) (i : Nat) (fr : Bool) (k : Pk) (r : Pa × Pk × Bool) : Prop where
  | none (hl : r.1.lg = P.lg) (hw : r.1.word 0 = P.word 0) (he : r.2.2 = true)
  | load (a : Acc) (hl : r.1.lg = P.lg ++ [a]) (ht : a.th = i) (ha : a.ad = 0) (hk : a.kd = 1) (hs : a.saw = P.word 0) (hw : r.1.word 0 = P.word 0) (hh : r.2.1.hd = P.word 0)
  | far (a : Acc) (hl : r.1.lg = P.lg ++ [a]) (ht : a.th = i) (ha : a.ad ≠ 0) (hw : r.1.word 0 = P.word 0) (hh : r.2.1.hd = k.hd) (hf : fr = false) (hn : k.nx ≠ 5)
  | hit (a : Acc) (hl : r.1.lg = P.lg ++ [a]) (ht : a.th = i) (ha : a.ad = 0) (hk : a.kd = 3) (hs : a.saw = a.old) (hx : a.new / 4294967296 = tag P + 1) (hw : r.1.word 0 = a.new) (he : r.2.2 = true ∨ r.2.1.nx = 5)
  | miss (a : Acc) (hl : r.1.lg = P.lg ++ [a]) (ht : a.th = i) (ha : a.ad = 0) (hk : a.kd = 3) (hs : a.saw ≠ a.old) (hw : r.1.word 0 = P.word 0) (hd : k.hd ≠ P.word 0) (he : r.2.1.nx = 5) (hf : fr = false) (hn : k.nx ≠ 5)
section
variable {P : Pa} {b i : Nat}
theorem word0_set (P : Pa) (ad : Nat) (x : Int) (h : 0 < ad) (l : List Acc) : ({ P with ws := P.ws.set ad x, lg := l } : Pa).word 0 = P.word 0 := by
  simp only [Pa.word, List.getElem?_set]
  rw [if_neg (by omega)]
theorem word0_hit (P : Pa) (x : Int) (h : 0 < P.ws.length) (l : List Acc) : ({ P with ws := P.ws.set 0 x, lg := l } : Pa).word 0 = x := by
  simp [Pa.word, h]
theorem newtag (h : Inv P b) {s : Int} (hs : -1 ≤ s) (hs' : s ≤ 2147483646) : headBehind (P.word 0) s / 4294967296 = tag P + 1 := by
  have h1 := h.w0
  have h2 := h.bd
  have h3 := h.ns
  have h4 := (h.word 0).1
  unfold headBehind tagOf
  rw [if_pos ⟨hs, hs'⟩, if_pos (by omega)]
  have : 0 ≤ P.word 0 / 4294967296 := by omega
  unfold tag at *
  rw [Int.emod_eq_of_lt (by omega) (by omega)]
  omega
theorem nextOf_in (w : Int) : -1 ≤ nextOf w ∧ nextOf w ≤ 2147483646 := by
  unfold nextOf
  split <;> omega
theorem take_log (h : Inv P b) {now : Int} {k : Pk} : Lw P i false k (P.stepP i now k .take) ∨ k.nx = 5 ∧ Lw P i true k (P.stepP i now k .take) := by
  have hm := h.m0
  have hml := h.ml
  simp only [Pa.stepP]
  split
  · rename_i hn
    refine .inr ⟨hn, ?_⟩
    split
    · exact .load _ rfl rfl rfl rfl rfl rfl rfl
    · exact .load _ rfl rfl rfl rfl rfl rfl rfl
  · rename_i hn
    refine .inl ?_
    split
    · exact .far _ rfl rfl (by show ((P.spare k.sl : Nat) : Int) ≠ 0; unfold Pa.spare; omega) rfl rfl rfl hn
    · split
      · rename_i hw
        refine .hit _ rfl rfl rfl rfl rfl ?_ (word0_hit P _ (by omega) []) (.inl rfl)
        show headBehind k.hd _ / _ = _
        rw [← hw]
        exact newtag h (nextOf_in _).1 (nextOf_in _).2
      · rename_i hw
        exact .miss _ rfl rfl rfl rfl hw rfl (fun e => hw e.symm) rfl rfl hn
theorem Lw.any {P : Pa} {i : Nat} {fr : Bool} {k : Pk} {r : Pa × Pk × Bool} (h : Lw P i true k r) : Lw P i fr k r := by
  cases h with
  | none hl hw he => exact .none hl hw he
  | load a hl ht ha hk hs hw hh => exact .load a hl ht ha hk hs hw hh
  | far a hl ht ha hw hh hf hn => cases hf
  | hit a hl ht ha hk hs hx hw he => exact .hit a hl ht ha hk hs hx hw he
  | miss a hl ht ha hk hs hw hd he hf hn => cases hf
theorem giv_log (h : Inv P b) {now : Int} {k : Pk} {fl : Bool} (hs : P.A.has k.sl) : Lw P i false k (givP P i now k fl) ∨ k.nx = 5 ∧ Lw P i true k (givP P i now k fl) := by
  have hm := h.m0
  have hml := h.ml
  have hns := h.ns
  have hs2 := hs.2
  have hs1 := hs.1
  unfold givP
  split
  · rename_i hn
    exact .inr ⟨hn, .load _ rfl rfl rfl rfl rfl rfl rfl⟩
  · rename_i hn
    refine .inl ?_
    split
    · exact .far _ rfl rfl (by show ((P.spare k.sl : Nat) : Int) ≠ 0; unfold Pa.spare; omega) (word0_set P _ _ (by unfold Pa.spare; omega) _) rfl rfl hn
    · split
      · rename_i hw
        have hx : headBehind k.hd k.sl / 4294967296 = tag P + 1 := by rw [← hw]; exact newtag h (by omega) (by omega)
        have hw0 := word0_hit P (headBehind k.hd k.sl) (by omega) (P.lg ++ [⟨now, i, 3, 0, k.hd, headBehind k.hd k.sl, k.hd⟩])
        cases fl with
        | false => exact .hit _ rfl rfl rfl rfl rfl hx hw0 (.inl rfl)
        | true =>
          simp only [if_true, Pa.next]
          split
          · exact .hit _ rfl rfl rfl rfl rfl hx hw0 (.inl rfl)
          · exact .hit _ rfl rfl rfl rfl rfl hx hw0 (.inr rfl)
      · rename_i hw
        exact .miss _ rfl rfl rfl rfl hw rfl (fun e => hw e.symm) rfl rfl hn
theorem step_log (h : Inv P b) {now : Int} {kd : Kd} {k : Pk} (hT : Tok P i false kd k) : Lw P i false k (P.stepP i now k kd) ∨ k.nx = 5 ∧ Lw P i true k (P.stepP i now k kd) := by
  cases kd with
  | take => exact take_log h
  | give => rw [stepP_give]; exact giv_log h hT.1
  | flush => rw [stepP_flush]; exact giv_log h (by simp only [Tok, Bool.false_eq_true, if_false] at hT; exact hT.1)
theorem Lw.load5 {P : Pa} {i : Nat} {k k' : Pk} {r : Pa × Pk × Bool} (h : Lw P i true k r) : Lw P i true k' r := by
  cases h with
  | none hl hw he => exact .none hl hw he
  | load a hl ht ha hk hs hw hh => exact .load a hl ht ha hk hs hw hh
  | far a hl ht ha hw hh hf hn => cases hf
  | hit a hl ht ha hk hs hx hw he => exact .hit a hl ht ha hk hs hx hw he
  | miss a hl ht ha hk hs hw hd he hf hn => cases hf
theorem ready_nx {now : Int} {kd : Kd} {k : Pk} (he : (P.ready i now k kd).2.2 = false) : (P.ready i now k kd).2.1.nx = 5 := by
  cases kd <;> simp only [Pa.ready] at he ⊢ <;> split at he <;> rename_i hc <;> first | (simp at he; done) | (simp [hc])
theorem ready_log {now : Int} {kd : Kd} {k : Pk} : (P.ready i now k kd).1.lg = P.lg ∧ (P.ready i now k kd).1.word 0 = P.word 0 := by
  cases kd <;> simp only [Pa.ready] <;> split <;> exact ⟨rfl, rfl⟩
theorem work_log (h : Inv P b) (hi : i < P.pts.length) {now : Int} {fr : Bool} {kd : Kd} {k : Pk} (hT : Tok P i fr kd k) : Lw P i fr k (P.work i now fr kd k) := by
  unfold Pa.work
  cases fr with
  | false =>
    rw [if_neg (by decide)]
    rcases step_log (now := now) h hT with r | ⟨_, r⟩
    · exact r
    · exact r.any
  | true =>
    rw [if_pos rfl]
    cases he : (P.ready i now k kd).2.2 with
    | true =>
      simp only [he, if_true]
      exact .none ready_log.1 ready_log.2 he
    | false =>
      simp only [he, Bool.false_eq_true, if_false]
      obtain ⟨e1, e2⟩ := ready_no h hi hT he
      have e3 := ready_nx he
      rw [e1]
      rcases step_log (now := now) h e2 with r | ⟨_, r⟩
      · cases r with
        | none hl hw he => exact .none hl hw he
        | load a hl ht ha hk hs hw hh => exact .load a hl ht ha hk hs hw hh
        | far a hl ht ha hw hh hf hn => exact absurd e3 hn
        | hit a hl ht ha hk hs hx hw he => exact .hit a hl ht ha hk hs hx hw he
        | miss a hl ht ha hk hs hw hd he hf hn => exact absurd e3 hn
      · exact r.load5
/-- What holds of the log behind every move. -/
structure Sw (nt : Nat) (P : Pa) : Prop where
  ok : (sws nt P.lg).ok = true
  tg : (sws nt P.lg).tag = tag P
  ix : (sws nt P.lg).ix = P.lg.length
  ln : (sws nt P.lg).ld.length = nt
  pn : P.pts.length = nt
  lt : (sws nt P.lg).last < (sws nt P.lg).ix
  le : ∀ j : Nat, (sws nt P.lg).ld[j]?.getD 0 ≤ (sws nt P.lg).ix
  hd : ∀ (j : Nat) (t : At) (kd : Kd) (k : Pk), P.pts[j]? = some t → t.tk = some (kd, k) → t.fr = false → k.nx ≠ 5 → k.hd = P.word 0 ∨ (sws nt P.lg).ld[j]?.getD 0 ≤ (sws nt P.lg).last
theorem Sw.log {nt : Nat} (hS : Sw nt P) {t t' : At} {kd : Kd} {k : Pk} {r : Pa × Pk × Bool} (hL : Lw P i t.fr k r) (hi : i < nt) (hp : r.1.pts = P.pts) (ht : P.pts[i]? = some t) (hk : t.tk = some (kd, k)) (ht' : ∀ kd' k', t'.tk = some (kd', k') → r.2.2 = false ∧ k' = r.2.1) {Q : Pa} (q1 : Q.lg = r.1.lg) (q2 : Q.word 0 = r.1.word 0) (q3 : Q.pts = r.1.pts.set i t') : Sw nt Q := by
  have hln : Q.pts.length = nt := by rw [q3, List.length_set, hp]; exact hS.pn
  have other : ∀ (j : Nat) (u : At), Q.pts[j]? = some u → (j = i ∧ u = t') ∨ (j ≠ i ∧ P.pts[j]? = some u) := fun j u hu => by
    rw [q3, List.getElem?_set, hp] at hu
    split at hu
    · rename_i e
      split at hu
      · cases hu; exact .inl ⟨e.symm, rfl⟩
      · cases hu
    · rename_i e
      exact .inr ⟨fun e' => e e'.symm, hu⟩
  obtain ⟨s1, s2, s3, s4, s5, s6, s7, s8⟩ := hS
  have hlen : ∀ a : Acc, ((P.lg ++ [a]).length : Int) = (P.lg.length : Int) + 1 := fun a => by simp
  cases hL with
  | none hl hw he =>
    refine ⟨?_, ?_, ?_, ?_, hln, ?_, ?_, fun j u kd' k' hu hk' hf hn => ?_⟩ <;> (try simp only [q1, hl])
    · exact s1
    · exact s2.trans (by unfold tag; rw [q2, hw])
    · exact s3
    · exact s4
    · exact s6
    · exact s7
    · rw [q2, hw]
      rcases other j u hu with ⟨rfl, rfl⟩ | ⟨hj, hu⟩
      · have := (ht' _ _ hk').1; rw [he] at this; cases this
      · exact s8 j u kd' k' hu hk' hf hn
  | load a hl hth ha hkd hs hw hh =>
    have e : sws nt r.1.lg = { sws nt P.lg with ld := (sws nt P.lg).ld.set i (sws nt P.lg).ix, ix := (sws nt P.lg).ix + 1, ok := (sws nt P.lg).ok && decide (a.saw / 4294967296 = (sws nt P.lg).tag) } := by
      rw [hl, sws_snoc]
      unfold Sws.step
      rw [if_neg (by rw [hth]; omega), if_neg (by rw [ha]; simp), if_pos hkd, hth]
      rfl
    generalize sws nt P.lg = S at *
    refine ⟨?_, ?_, ?_, ?_, hln, ?_, fun j => ?_, fun j u kd' k' hu hk' hf hn => ?_⟩ <;> (try simp only [q1, e])
    · rw [s1, hs, s2]; simp [tag]
    · exact s2.trans (by unfold tag; rw [q2, hw])
    · rw [hl, hlen, s3]
    · rw [List.length_set]; exact s4
    · omega
    · rw [List.getElem?_set]
      have := s7 j
      split
      · split <;> simp <;> omega
      · omega
    · rw [q2, hw]
      rcases other j u hu with ⟨rfl, rfl⟩ | ⟨hj, hu⟩
      · have := (ht' _ _ hk').2; subst this; exact .inl hh
      · rw [List.getElem?_set, if_neg (fun e' => hj e'.symm)]
        exact s8 j u kd' k' hu hk' hf hn
  | far a hl hth ha hw hh hf0 hn0 =>
    have e : sws nt r.1.lg = { sws nt P.lg with ix := (sws nt P.lg).ix + 1 } := by
      rw [hl, sws_snoc]
      unfold Sws.step
      rw [if_neg (by rw [hth]; omega), if_pos ha]
    generalize sws nt P.lg = S at *
    refine ⟨?_, ?_, ?_, ?_, hln, ?_, fun j => ?_, fun j u kd' k' hu hk' hf hn => ?_⟩ <;> (try simp only [q1, e])
    · exact s1
    · exact s2.trans (by unfold tag; rw [q2, hw])
    · rw [hl, hlen, s3]
    · exact s4
    · omega
    · have := s7 j; omega
    · rw [q2, hw]
      rcases other j u hu with ⟨rfl, rfl⟩ | ⟨hj, hu⟩
      · have := (ht' _ _ hk').2; subst this; rw [hh]; exact s8 _ t kd k ht hk hf0 hn0
      · exact s8 j u kd' k' hu hk' hf hn
  | hit a hl hth ha hkd hs hx hw he =>
    have e : sws nt r.1.lg = { sws nt P.lg with tag := (sws nt P.lg).tag + 1, last := (sws nt P.lg).ix, ix := (sws nt P.lg).ix + 1, ok := (sws nt P.lg).ok && decide (a.new / 4294967296 = (sws nt P.lg).tag + 1) } := by
      rw [hl, sws_snoc]
      unfold Sws.step
      rw [if_neg (by rw [hth]; omega), if_neg (by rw [ha]; simp), if_neg (by rw [hkd]; decide), if_pos hkd, if_pos hs]
    generalize sws nt P.lg = S at *
    refine ⟨?_, ?_, ?_, ?_, hln, ?_, fun j => ?_, fun j u kd' k' hu hk' hf hn => ?_⟩ <;> (try simp only [q1, e])
    · rw [s1, hx, s2]; simp
    · rw [s2, ← hx]; unfold tag; rw [q2, hw]
    · rw [hl, hlen, s3]
    · exact s4
    · omega
    · have := s7 j; omega
    · rcases other j u hu with ⟨rfl, rfl⟩ | ⟨hj, hu⟩
      · obtain ⟨h1, h2⟩ := ht' _ _ hk'
        rcases he with he | he
        · rw [h1] at he; cases he
        · subst h2; exact absurd he hn
      · exact .inr (s7 j)
  | miss a hl hth ha hkd hs hw hd he hf0 hn0 =>
    have e : sws nt r.1.lg = { sws nt P.lg with ix := (sws nt P.lg).ix + 1, ok := (sws nt P.lg).ok && decide (¬ (sws nt P.lg).last < (sws nt P.lg).ld[i]?.getD 0) } := by
      rw [hl, sws_snoc]
      unfold Sws.step
      rw [if_neg (by rw [hth]; omega), if_neg (by rw [ha]; simp), if_neg (by rw [hkd]; decide), if_pos hkd, if_neg hs, hth]
      rfl
    generalize sws nt P.lg = S at *
    refine ⟨?_, ?_, ?_, ?_, hln, ?_, fun j => ?_, fun j u kd' k' hu hk' hf hn => ?_⟩ <;> (try simp only [q1, e])
    · rcases s8 i t kd k ht hk hf0 hn0 with h | h
      · exact absurd h hd
      · rw [s1]; simp; exact h
    · exact s2.trans (by unfold tag; rw [q2, hw])
    · rw [hl, hlen, s3]
    · exact s4
    · omega
    · have := s7 j; omega
    · rw [q2, hw]
      rcases other j u hu with ⟨rfl, rfl⟩ | ⟨hj, hu⟩
      · have := (ht' _ _ hk').2; subst this; exact absurd he hn
      · exact s8 j u kd' k' hu hk' hf hn
theorem Sw.step {nt : Nat} (hS : Sw nt P) (hI : Inv P b) (hb : b < 65536) {t : At} (ht : P.pts[i]? = some t) (now : Int) : Sw nt (P.step i t now).1 := by
  have hi : i < P.pts.length := (List.getElem?_eq_some_iff.1 ht).1
  cases hk : t.tk with
  | none => simp only [Pa.step, hk]; exact hS
  | some kk =>
    obtain ⟨kd, k⟩ := kk
    have hT := hI.th i t kd k ht hk
    have hL := work_log (now := now) hI hi hT
    have hp := (work_core (now := now) hI hb hi hT).1.pts
    simp only [Pa.step, hk]
    cases he : (P.work i now t.fr kd k).2.2 with
    | true =>
      simp only [if_true]
      exact hS.log hL (by rw [← hS.pn]; exact hi) hp ht hk (fun _ _ e => by cases e) rfl rfl rfl
    | false =>
      simp only [Bool.false_eq_true, if_false]
      exact hS.log hL (by rw [← hS.pn]; exact hi) hp ht hk (fun _ _ e => by cases e; exact ⟨he, rfl⟩) rfl rfl rfl
theorem Sw.begins {nt : Nat} (hS : Sw nt P) (op arg data now : Int) : Sw nt (P.begins i op arg data now).1 := by
  unfold Pa.begins
  split
  · obtain ⟨s1, s2, s3, s4, s5, s6, s7, s8⟩ := hS
    refine ⟨s1, s2, s3, s4, by simpa using s5, s6, s7, fun j u kd k hu hk hf hn => ?_⟩
    simp only [List.getElem?_set] at hu
    split at hu
    · split at hu
      · cases hu; cases hf
      · cases hu
    · exact s8 j u kd k hu hk hf hn
  · exact hS
theorem Sw.move {nt : Nat} (hS : Sw nt P) (h : Inv P P.n) (th op arg data : Int) : Sw nt (P.move th op arg data).1 := by
  have hc : Sw nt P.count := ⟨hS.ok, hS.tg, hS.ix, hS.ln, hS.pn, hS.lt, hS.le, hS.hd⟩
  unfold Pa.move
  split
  · exact hS
  · rename_i hn
    split
    · split
      · exact hc
      · rename_i t ht
        split
        · exact hc.step h.count (by omega) ht _
        · split
          · exact hc
          · exact hc.begins op arg data _
    · exact hc
theorem Sw.play {nt : Nat} (ms : List Mv) : ∀ {P : Pa}, Sw nt P → Inv P P.n → Sw nt (P.play ms) := by
  induction ms with
  | nil => exact fun h _ => h
  | cons x ms ih => exact fun h hI => ih (h.move hI x.th x.op x.arg x.data) (hI.move _ _ _ _)
theorem Sw.start (m K : Nat) (A : Ao) (nt : Nat) (ws : List Int) (h0 : ws[0]?.getD 0 / 4294967296 = 0) : Sw nt (Pa.new m K A nt ws) := by
  refine ⟨rfl, h0.symm, rfl, by simp [Pa.new, sws], by simp [Pa.new], by simp [Pa.new, sws], fun j => ?_, fun j t kd k hu hk => ?_⟩
  · simp only [Pa.new, sws, List.foldl_nil, List.getElem?_replicate]
    split <;> simp
  · simp only [Pa.new, List.getElem?_replicate] at hu
    split at hu
    · cases hu; cases hk
    · cases hu
end
end Go.Proofs.YtmmjdlbeiaoojaaGreat.Ar
