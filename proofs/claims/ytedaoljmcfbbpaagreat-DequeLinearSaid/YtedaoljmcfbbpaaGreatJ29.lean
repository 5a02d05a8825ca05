import Derived.Test.YtedaoljmcfbbpaaGreatJ28
import Derived.Test.YtedaoljmcfbbpaaGreatJ01
import Derived.Test.YtedaoljmcfbbpaaGreatChecked
import Derived.WalkSpells
/-
  DequeOnce, pure, the third part: along a script, and when all threads have been picked eight times; what Left tells then.
-/
namespace Go.Proofs.YtedaoljmcfbbpaaGreat.Dm
open Go.RowKit Go.Shelf Mr Me Ma Gm Dq
set_option linter.unusedVariables false
set_option linter.unusedSimpArgs false
theorem Oi.count {r : Nat} {P : Pg Dt Lw} {B : Int} (h : Oi r P B) : Oi r P.count B :=
  ⟨h.t0, h.tb, h.room, by have := h.nn; show B ≤ ((P.n + 1 : Nat) : Int); omega, h.own, h.stl, h.cal, h.wf, h.opn, h.bal⟩
theorem mk_cases {i : Nat} {op arg data : Int} {g : Lw} {k : Dt} (h : mk i op arg data g = some k) : (k = .push 1 arg 0 ∧ i = 0 ∧ op = 90) ∨ (k = .take 1 0 0 0 ∧ i = 0 ∧ op = 91) ∨ (k = .steal 1 0 0 ∧ op = 92) := by
  unfold mk at h
  split at h
  · rename_i h1
    split at h
    · rename_i h2; cases h; exact .inl ⟨rfl, h2, h1⟩
    · cases h
  · split at h
    · rename_i h1
      split at h
      · rename_i h2; cases h; exact .inr (.inl ⟨rfl, h2, h1⟩)
      · cases h
    · split at h
      · rename_i h1; cases h; exact .inr (.inr ⟨rfl, h1⟩)
      · cases h
theorem Oi.begins {r : Nat} {P : Pg Dt Lw} {B : Int} (h : Oi r P B) {i : Nat} {t : Pt Dt} (ht : P.pts[i]? = some t) (hidle : t.tk = none) (op arg data now : Int) (hw : Wi arg) : Oi r (P.begins (dqY r) i op arg data now).1 B := by
  unfold Pg.begins
  split
  · exact h
  · rename_i k hk
    have hmk : Dm.mk i op arg data P.g = some k := hk
    have hi : i < P.pts.length := (List.getElem?_eq_some_iff.1 ht).1
    obtain ⟨nw, hnw⟩ : ∃ nw : Cl, nw = ⟨i, op, arg, data, now, -1, -1, 0, 0⟩ := ⟨_, rfl⟩
    obtain ⟨u, hu⟩ : ∃ u : Pt Dt, u = ⟨some k, true, (P.cls.length : Int), 0, 0⟩ := ⟨_, rfl⟩
    have lt : ∀ {c : Nat} {x : Cl}, P.cls[c]? = some x → c < P.cls.length := fun h => (List.getElem?_eq_some_iff.1 h).1
    have app : ∀ {c : Nat} {x : Cl}, (P.cls ++ [nw])[c]? = some x → P.cls[c]? = some x ∨ (c = P.cls.length ∧ x = nw) := fun {c x} h => by
      by_cases hl : c < P.cls.length
      · rw [List.getElem?_append_left hl] at h; exact .inl h
      · have he : c = P.cls.length := by
          have := (List.getElem?_eq_some_iff.1 h).1
          simp at this; omega
        subst he
        rw [List.getElem?_append_right (Nat.le_refl _)] at h
        simp at h
        exact .inr ⟨rfl, h.symm⟩
    have hk0 : tkF P.pts i = none := by rw [tkF_at ht]; exact hidle
    have hak : nw.ak = 0 := by rw [hnw]
    show Oi r ⟨P.pts.set i _, P.g, P.n, P.cls ++ [_], P.ws, P.lg⟩ B
    rw [← hnw, ← hu]
    refine ⟨h.t0, h.tb, h.room, h.nn, ?_, fun j t' k' hj hk' => ?_, fun j t' k' hj hk' => ?_, fun c x hx => ?_, fun c x hx => ?_, ?_⟩
    · show On r P.ws B (tkF (P.pts.set i u) 0)
      rw [tkF_set _ _ _ hi]
      by_cases h0 : i = 0
      · subst h0
        rw [upd_same]
        have ho := h.own
        rw [hk0] at ho
        have ho : rd P.ws 1 = nU B := ho
        have eu : u.tk = some k := by rw [hu]
        rw [eu]
        rcases mk_cases hmk with ⟨rfl, _⟩ | ⟨rfl, _⟩ | ⟨rfl, _⟩
        · exact ⟨ho, fun a => by omega, fun a => by omega, fun a => by omega⟩
        · exact ⟨fun _ => ho, fun a => by omega, fun a => by omega, fun a => by omega, fun a => by omega, fun a => by omega, fun a => by omega, fun a => by omega⟩
        · exact ho
      · rw [upd_other _ _ _ _ (fun e => h0 e.symm)]; exact h.own
    · rcases pts_set hj with ⟨rfl, rfl⟩ | ⟨_, hj⟩
      · rw [hu] at hk'; cases hk'
        rcases mk_cases hmk with ⟨rfl, _⟩ | ⟨rfl, _⟩ | ⟨rfl, _⟩
        · trivial
        · trivial
        · exact ⟨fun a => by omega, fun a => by omega, fun a => by omega⟩
      · exact h.stl j t' k' hj hk'
    · rcases pts_set hj with ⟨rfl, rfl⟩ | ⟨_, hj⟩
      · rw [hu] at hk'; cases hk'
        refine ⟨P.cls.length, nw, by rw [hu], by simp, by rw [hnw], hak, ?_⟩
        rcases mk_cases hmk with ⟨rfl, _, h2⟩ | ⟨rfl, _, h2⟩ | ⟨rfl, h2⟩
        · rw [hnw]; exact ⟨h2, rfl⟩
        · rw [hnw]; exact h2
        · rw [hnw]; exact h2
      · obtain ⟨c, x, w1, w2, w3⟩ := h.cal j t' k' hj hk'
        exact ⟨c, x, w1, by show (P.cls ++ [nw])[c]? = _; rw [List.getElem?_append_left (lt w2)]; exact w2, w3⟩
    · rcases app hx with hx | ⟨_, rfl⟩
      · exact h.wf c x hx
      · rw [hnw]; exact hw
    · rcases app hx with hx | ⟨rfl, _⟩
      · rcases h.opn c x hx with h1 | ⟨j, t', g1, g2, g3⟩
        · exact .inl h1
        · refine .inr ⟨j, t', ?_, g2, g3⟩
          show (P.pts.set i u)[j]? = _
          rw [List.getElem?_set_ne]
          · exact g1
          · rintro rfl
            rw [ht] at g1; cases g1
            rw [hidle] at g2; cases g2
      · exact .inr ⟨i, u, List.getElem?_set_self hi, by rw [hu]; rfl, by rw [hu]⟩
    · show (inL (P.cls ++ [nw])).Perm (outL (P.cls ++ [nw]) ++ (hdO r P.ws (P.pts.set i u)[0]? ++ _))
      have e1 : inL (P.cls ++ [nw]) = inL P.cls := by simp [inL, ci_zero hak]
      have e2 : outL (P.cls ++ [nw]) = outL P.cls := by simp [outL, co_zero hak]
      have e3 : hdO r P.ws (P.pts.set i u)[0]? = hdO r P.ws P.pts[0]? := by
        by_cases h0 : i = 0
        · subst h0
          rw [List.getElem?_set_self hi, ht]
          show hdF r P.ws u.tk u.ak u.av = hdF r P.ws t.tk t.ak t.av
          rw [hidle, hu]
          show hdF r P.ws (some k) 0 0 = []
          rcases mk_cases hmk with ⟨rfl, _⟩ | ⟨rfl, _⟩ | ⟨rfl, _⟩ <;> simp [hdF]
        · rw [List.getElem?_set_ne h0]
      rw [e1, e2, e3]
      exact h.bal
theorem Oi.move {r : Nat} {P : Pg Dt Lw} {B : Int} (hI : Iv r P) (h : Oi r P B) (th op arg data : Int) (hw : Wi arg) : ∃ B', Oi r (P.move (dqY r) th op arg data).1 B' := by
  unfold Pg.move
  split
  · exact ⟨B, h⟩
  · rename_i hn
    split
    · split
      · exact ⟨B, h.count⟩
      · rename_i t ht
        split
        · unfold Pg.step
          split
          · exact ⟨B, h.count⟩
          · rename_i k hk
            exact oi_step hI (by omega) h ht hk P.n (by omega) t.fr
        · split
          · exact ⟨B, h.count⟩
          · rename_i hidle
            exact ⟨B, h.count.begins ht (by cases h9 : t.tk with | none => rfl | some k => rw [h9] at hidle; exact absurd rfl hidle) op arg data P.n hw⟩
    · exact ⟨B, h.count⟩
theorem oi_new (nt r : Nat) : Oi r (P0 nt r) 0 := by
  have e0 : rd (P0 nt r).ws 0 = 0 := by show ((List.replicate (2 + r) (0 : Int))[0]?).getD 0 = 0; rw [List.getElem?_replicate]; split <;> rfl
  have e1 : rd (P0 nt r).ws 1 = 0 := by show ((List.replicate (2 + r) (0 : Int))[1]?).getD 0 = 0; rw [List.getElem?_replicate]; split <;> rfl
  have hp : ∀ (i : Nat) (t : Pt Dt), (P0 nt r).pts[i]? = some t → t.tk = none := fun i t ht => by
    have ht' : (List.replicate nt (⟨none, false, -1, 0, 0⟩ : Pt Dt))[i]? = some t := ht
    rw [List.getElem?_replicate] at ht'
    split at ht'
    · cases ht'; rfl
    · cases ht'
  have ht0 : tkF (P0 nt r).pts 0 = none := by
    unfold tkF
    cases h : (P0 nt r).pts[0]? with
    | none => rfl
    | some t => exact hp 0 t h
  refine ⟨by rw [e0]; omega, by rw [e0]; omega, by rw [e0]; omega, Int.le_refl _, by rw [ht0]; exact e1, fun i t k ht hk => ?_, fun i t k ht hk => ?_, fun c x h => (by cases h), fun c x h => (by cases h), ?_⟩
  · rw [hp i t ht] at hk; cases hk
  · rw [hp i t ht] at hk; cases hk
  · rw [e0]
    have : hdO r (P0 nt r).ws (P0 nt r).pts[0]? = [] := by
      cases h : (P0 nt r).pts[0]? with
      | none => rfl
      | some t => show hdF r _ t.tk _ _ = []; rw [hp 0 t h]; rfl
    rw [this]
    exact List.Perm.refl _
theorem pl_once {r : Nat} (ms : List Mv) : ∀ {P : Pg Dt Lw} {B : Int}, Iv r P → Oi r P B → (∀ m ∈ ms, Wi m.arg) → ∃ B', Oi r (Pl r P ms) B' := by
  induction ms with
  | nil => exact fun {P B} _ h _ => ⟨B, h⟩
  | cons x ms ih =>
    intro P B h0 h1 hw
    obtain ⟨B1, h2⟩ := h1.move h0 x.th x.op x.arg x.data (hw x (List.mem_cons_self))
    exact ih (h0.move _ _ _ _) h2 (fun m hm => hw m (List.mem_cons_of_mem _ hm))
theorem wi0 : Wi 0 := by unfold Wi; omega
theorem stN_once {r : Nat} {P : Pg Dt Lw} {B : Int} (h : Iv r P) (hb : Bd P) {i : Nat} (hi : i < P.pts.length) (ho : Oi r P B) : ∀ n, P.n + n ≤ 65536 → ∃ B', Oi r (stN r P i n) B'
  | 0, _ => ⟨B, ho⟩
  | n + 1, hn => by
      obtain ⟨B1, h1⟩ := stN_once h hb hi ho n (by omega)
      obtain ⟨h2, _⟩ := stN_all h hb hi n (by omega)
      rw [stN_succ]
      exact h1.move h2 _ _ _ _ wi0
/-- A step leaves the other threads where they are. -/
theorem mv_other {r : Nat} {P : Pg Dt Lw} {i j : Nat} (hij : j ≠ i) (arg data : Int) : tkF (P.move (dqY r) (i : Int) 0 arg data).1.pts j = tkF P.pts j := by
  unfold Pg.move
  split
  · rfl
  · split
    · rename_i hc
      have hi : i < P.pts.length := by omega
      rw [Int.toNat_natCast]
      split
      · rfl
      · rename_i t ht
        rw [if_pos rfl]
        unfold Pg.step
        split
        · rfl
        · rename_i k hk
          unfold Pg.stepE
          split
          · show tkF (P.pts.set i _) j = _
            rw [tkF_set _ _ _ hi, upd_other _ _ _ _ hij]
          · show tkF (P.pts.set i _) j = _
            rw [tkF_set _ _ _ hi, upd_other _ _ _ _ hij]
    · rfl
theorem stN_other {r : Nat} {P : Pg Dt Lw} {i j : Nat} (hij : j ≠ i) : ∀ n, tkF (stN r P i n).pts j = tkF P.pts j
  | 0 => rfl
  | n + 1 => by rw [stN_succ, mv_other hij]; exact stN_other hij n
theorem st8 {r : Nat} {P : Pg Dt Lw} (h : Iv r P) (hb : Bd P) {i : Nat} (hi : i < P.pts.length) (hn : P.n + 8 ≤ 65536) : tkF (stN r P i 8).pts i = none := by
  obtain ⟨h1, h2, h3, h4, h5⟩ := stN_all h hb hi 8 hn
  have h6 := lf_le h i
  generalize stN r P i 8 = Q at *
  have h7 : lf Q i = 0 := by omega
  obtain ⟨t, ht⟩ : ∃ t, Q.pts[i]? = some t := ⟨_, List.getElem?_eq_getElem (by omega)⟩
  rw [tkF_at ht]
  cases hk : t.tk with
  | none => rfl
  | some k =>
    have e0 : lf Q i = mu (rd Q.ws 0) k := by unfold lf; rw [tkF_at ht, hk]
    have := (mu_le (top := rd Q.ws 0) (h1.tsk i t k ht hk)).1
    omega
/-- The threads below t, eight steps each. -/
def stT (r : Nat) (P : Pg Dt Lw) : Nat → Pg Dt Lw
  | 0 => P
  | t + 1 => stN r (stT r P t) t 8
theorem stT_succ (r : Nat) (P : Pg Dt Lw) (t : Nat) : stT r P (t + 1) = stN r (stT r P t) t 8 := rfl
theorem stT_all {r : Nat} {P : Pg Dt Lw} {B : Int} (h : Iv r P) (hb : Bd P) (ho : Oi r P B) : ∀ m, m ≤ P.pts.length → P.n + 8 * m ≤ 65536 → Iv r (stT r P m) ∧ Bd (stT r P m) ∧ (stT r P m).pts.length = P.pts.length ∧ (stT r P m).n ≤ P.n + 8 * m ∧ (∀ j, j < m → tkF (stT r P m).pts j = none) ∧ ∃ B', Oi r (stT r P m) B'
  | 0, _, _ => ⟨h, hb, rfl, Nat.le_refl _, fun j hj => by omega, B, ho⟩
  | m + 1, hm, hn => by
      obtain ⟨h1, h2, h3, h4, h5, B1, h6⟩ := stT_all h hb ho m (by omega) (by omega)
      rw [stT_succ]
      generalize stT r P m = Q at *
      have hi : m < Q.pts.length := by omega
      obtain ⟨g1, g2, g3, g4, _⟩ := stN_all h1 h2 hi 8 (by omega)
      refine ⟨g1, g2, g3.trans h3, by omega, fun j hj => ?_, stN_once h1 h2 hi h6 8 (by omega)⟩
      by_cases e : j = m
      · subst e; exact st8 h1 h2 hi (by omega)
      · rw [stN_other e]; exact h5 j (by omega)
/-- What is told when no call is on its way. -/
theorem once_end {r nt : Nat} {P : Pg Dt Lw} {B : Int} (hI : Iv r P) (hb : Bd P) (h : Oi r P B) (hd : dqB (nt : Int) (r : Int) = true) (hz : ∀ j, j < P.pts.length → tkF P.pts j = none) :
    (∀ (c : Nat) (x : Cl), P.cls[c]? = some x → 0 ≤ x.fin) ∧ ∃ L, lfR (nt : Int) (r : Int) P.ws = (L, 0) ∧ (inL P.cls).Perm (outL P.cls ++ L) := by
  have hn := hb.n
  have t0 := h.t0
  have tb := h.tb
  have nn := h.nn
  have room := h.room
  have z0 : tkF P.pts 0 = none := by
    by_cases h0 : 0 < P.pts.length
    · exact hz 0 h0
    · unfold tkF; rw [List.getElem?_eq_none (by omega)]; rfl
  have ho := h.own
  rw [z0] at ho
  have ho : rd P.ws 1 = nU B := ho
  refine ⟨fun c x hx => ?_, sg r P.ws (rd P.ws 0) (B - rd P.ws 0).toNat, ?_, ?_⟩
  · rcases h.opn c x hx with h1 | ⟨j, t, g1, g2, _⟩
    · exact h1
    · have := hz j (List.getElem?_eq_some_iff.1 g1).1
      rw [tkF_at g1] at this
      rw [this] at g2; cases g2
  · have e0 : lfT P.ws = rd P.ws 0 := by
      unfold lfT
      rw [List.getD_eq_getElem?_getD]
      show wrap64 (rd P.ws 0) = rd P.ws 0
      exact w64_id _ t0 (by omega)
    have e1 : lfB P.ws = B := by
      unfold lfB
      rw [List.getD_eq_getElem?_getD]
      show wrap64 (rd P.ws 1) = B
      rw [ho]; exact w64_nU _ (by omega) (by omega)
    have hl := hI.len
    unfold lfR
    rw [if_neg (by rw [hd]; decide), if_neg (by rw [hl]; omega), if_pos (by unfold lfOk; rw [e0, e1]; omega), e0, e1, Int.toNat_natCast]
    congr 1
    unfold lfL sg
    apply List.map_congr_left
    intro j _
    unfold lfV cv rd cel
    rw [List.getD_eq_getElem?_getD]
    congr 4
    have : ((rd P.ws 0) + (j : Int)).toNat = (rd P.ws 0).toNat + j := by omega
    unfold rd at this
    rw [this]
  · have hb := h.bal
    have : hdO r P.ws P.pts[0]? = [] := by
      cases h9 : P.pts[0]? with
      | none => rfl
      | some t =>
        show hdF r P.ws t.tk t.ak t.av = []
        rw [tkF_at h9] at z0
        rw [z0]; rfl
    rw [this] at hb
    exact hb
end Go.Proofs.YtedaoljmcfbbpaaGreat.Dm
/-
  ROWS as they may be read, wherever they begin; contents.
-/
namespace Go.Proofs.YtedaoljmcfbbpaaGreat.Md
open Go.RowKit Mr
/-- v reads as xs, n elements of size cells each; its block is among T. -/
def Sl (W : World) (T : Nat → Prop) (size : Nat) (v : Value) (n : Nat) (xs : List Value) : Prop :=
  xs.length = n * size ∧ ∃ a cap, v = .slice a n cap ∧ n ≤ cap ∧ (n = 0 ∨ ∃ b o, a = some ⟨b, o, none⟩ ∧ T b ∧ b < W.heap.size ∧ ∀ j u, xs[j]? = some u → W.cell? ⟨b, o + j, none⟩ = some u)
section
variable {W W' : World} {T T' S : Nat → Prop} {size n : Nat} {v : Value} {xs : List Value} {e : TypeId}
theorem Sl.mono (h : Sl W T size v n xs) (hT : ∀ k, T k → T' k) : Sl W T' size v n xs := by
  obtain ⟨h1, a, cap, hv, hc, h2⟩ := h
  refine ⟨h1, a, cap, hv, hc, h2.imp id ?_⟩
  rintro ⟨b, o, ha, hb, hl, hr⟩
  exact ⟨b, o, ha, hT b hb, hl, hr⟩
theorem Sl.fr (h : Sl W T size v n xs) (hf : Fr W W' S) (hd : ∀ k, T k → k < W.heap.size → ¬ S k) : Sl W' T size v n xs := by
  obtain ⟨h1, a, cap, hv, hc, h2⟩ := h
  refine ⟨h1, a, cap, hv, hc, h2.imp id ?_⟩
  rintro ⟨b, o, ha, hb, hl, hr⟩
  refine ⟨b, o, ha, hb, Nat.lt_of_lt_of_le hl hf.size, fun j u hu => ?_⟩
  rw [← hr j u hu]
  have := hf.block b hl (hd b hb hl)
  simp [World.cell?, this]
theorem Sl.below (h : Sl W T size v n xs) (hB : Below W.heap.size W W') : Sl W' T size v n xs := h.fr (S := fun _ => False) (Fr.of_below hB) (fun _ _ _ e => e)
theorem Sl.form (h : Sl W T size v n xs) : ∃ a cap, v = .slice a n cap ∧ n ≤ cap := by obtain ⟨_, a, cap, hv, hc, _⟩ := h; exact ⟨a, cap, hv, hc⟩
theorem Sl.there (h : Sl W T size v n xs) (hn : 0 < n) : ∃ b o cap, v = .slice (some ⟨b, o, none⟩) n cap ∧ n ≤ cap ∧ T b ∧ b < W.heap.size ∧ ∀ j u, xs[j]? = some u → W.cell? ⟨b, o + j, none⟩ = some u := by
  obtain ⟨_, a, cap, hv, hc, h2 | ⟨b, o, rfl, hb, hl, hr⟩⟩ := h
  · omega
  · exact ⟨b, o, cap, hv, hc, hb, hl, hr⟩
theorem Sl.nil (W : World) (T : Nat → Prop) (size : Nat) : Sl W T size (.slice none 0 0) 0 [] := ⟨by simp, none, 0, rfl, Nat.le_refl _, .inl rfl⟩
theorem Sl.of_has (h : Has W S e size v n xs) : Sl W S size v n xs := by
  refine ⟨h.1, ?_⟩
  rcases h.2 with ⟨rfl, rfl⟩ | ⟨g, cap, cur, rfl, hS, hg, hc, _⟩
  · exact ⟨none, 0, rfl, Nat.le_refl _, .inl rfl⟩
  · refine ⟨_, cap, rfl, hc, .inr ⟨g, 0, rfl, hS, (Array.getElem?_eq_some_iff.1 hg).1, fun j u hu => ?_⟩⟩
    rw [Nat.zero_add]
    exact h.cells (g := g) rfl j u hu
end
theorem add1 (b o j : Nat) : (⟨b, o, none⟩ : Addr).add j = ⟨b, o + j, none⟩ := by unfold Addr.add; split <;> simp_all
def ints (l : List Int) : List Value := l.map (Value.int .i64)
def pr (x : Int × Int) : List Value := [.int .i64 x.1, .int .i64 x.2]
def prs (l : List (Int × Int)) : List Value := l.flatMap pr
theorem ints_get (l : List Int) (i : Nat) (h : i < l.length) : (ints l)[i]? = some (.int .i64 (l[i]?.getD 0)) := by simp [ints, h]
theorem prs_get (l : List (Int × Int)) (i : Nat) (h : i < l.length) : (prs l)[i * 2]? = some (.int .i64 (l[i]?.getD (0, 0)).1) ∧ (prs l)[i * 2 + 1]? = some (.int .i64 (l[i]?.getD (0, 0)).2) := by
  induction l generalizing i with
  | nil => simp at h
  | cons x l ih =>
    cases i with
    | zero => simp [prs, pr]
    | succ i =>
      have := ih i (by simpa using h)
      simp only [prs, List.flatMap_cons, pr] at this ⊢
      rw [show (i + 1) * 2 = i * 2 + 2 from by omega]
      simpa using this
theorem prs_length (l : List (Int × Int)) : (prs l).length = l.length * 2 := by
  induction l with
  | nil => rfl
  | cons x l ih => simp only [prs, List.flatMap_cons, List.length_append, pr] at ih ⊢; simp at ih ⊢; omega
end Go.Proofs.YtedaoljmcfbbpaaGreat.Md
