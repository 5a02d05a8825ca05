import Derived.Test.YtihkcbbbgmjogaaJ30
import Derived.Test.YtihkcbbbgmjogaaJ23
/-
  DequeOnce, pure, the third part: along a script, and when all threads have been picked eight times; what Left tells then.
-/
namespace Go.Proofs.Ytihkcbbbgmjogaa.Dm
open Go.RowKit Go.Shelf Mr Me Ma Gm Dq
set_option linter.unusedVariables false
set_option linter.unusedSimpArgs false
theorem Oi.count {r : Nat} {P : Pg Dt Lw} {B : Int} (h : Oi r P B) : Oi r P.count B :=
  ⟨h.t0, h.tb, h.room, by have := h.nn; show B ≤ ((P.n + 1 : Nat) : Int); omega, h.own, h.stl, h.cal, h.wf, h.opn, h.bal⟩
theorem mk_cases {i : Nat} {op arg data : Int} {g : Lw} {k : Dt} (h : mk i op arg data g = some k) : (k = .push 1 arg 0 ∧ i = 0 ∧ op = 90) ∨ (k = .take 1 0 0 0 ∧ i = 0 ∧ op = 91) ∨ (k = .steal 1 0 0 ∧ op = 92) := by
  unfold mk at h
  split at h
  · rename_i h1
    split at h
    · rename_i h2; cases h; exact .inl ⟨rfl, h2, h1⟩
    · cases h
  · split at h
    · rename_i h1
      split at h
      · rename_i h2; cases h; exact .inr (.inl ⟨rfl, h2, h1⟩)
      · cases h
    · split at h
      · rename_i h1; cases h; exact .inr (.inr ⟨rfl, h1⟩)
      · cases h
theorem Oi.begins {r : Nat} {P : Pg Dt Lw} {B : Int} (h : Oi r P B) {i : Nat} {t : Pt Dt} (ht : P.pts[i]? = some t) (hidle : t.tk = none) (op arg data now : Int) (hw : Wi arg) : Oi r (P.begins (dqY r) i op arg data now).1 B := by
  unfold Pg.begins
  split
  · exact h
  · rename_i k hk
    have hmk : Dm.mk i op arg data P.g = some k := hk
    have hi : i < P.pts.length := (List.getElem?_eq_some_iff.1 ht).1
    obtain ⟨nw, hnw⟩ : ∃ nw : Cl, nw = ⟨i, op, arg, data, now, -1, -1, 0, 0⟩ := ⟨_, rfl⟩
    obtain ⟨u, hu⟩ : ∃ u : Pt Dt, u = ⟨some k, true, (P.cls.length : Int), 0, 0⟩ := ⟨_, rfl⟩
    have lt : ∀ {c : Nat} {x : Cl}, P.cls[c]? = some x → c < P.cls.length := fun h => (List.getElem?_eq_some_iff.1 h).1
    have app : ∀ {c : Nat} {x : Cl}, (P.cls ++ [nw])[c]? = some x → P.cls[c]? = some x ∨ (c = P.cls.length ∧ x = nw) := fun {c x} h => by
      by_cases hl : c < P.cls.length
      · rw [List.getElem?_append_left hl] at h; exact .inl h
      · have he : c = P.cls.length := by
          have := (List.getElem?_eq_some_iff.1 h).1
          simp at this; omega
        subst he
        rw [List.getElem?_append_right (Nat.le_refl _)] at h
        simp at h
        exact .inr ⟨rfl, h.symm⟩
    have hk0 : tkF P.pts i = none := by rw [tkF_at ht]; exact hidle
    have hak : nw.ak = 0 := by rw [hnw]
    show Oi r ⟨P.pts.set i _, P.g, P.n, P.cls ++ [_], P.ws, P.lg⟩ B
    rw [← hnw, ← hu]
    refine ⟨h.t0, h.tb, h.room, h.nn, ?_, fun j t' k' hj hk' => ?_, fun j t' k' hj hk' => ?_, fun c x hx => ?_, fun c x hx => ?_, ?_⟩
    · show On r P.ws B (tkF (P.pts.set i u) 0)
      rw [tkF_set _ _ _ hi]
      by_cases h0 : i = 0
      · subst h0
        rw [upd_same]
        have ho := h.own
        rw [hk0] at ho
        have ho : rd P.ws 1 = nU B := ho
        have eu : u.tk = some k := by rw [hu]
        rw [eu]
        rcases mk_cases hmk with ⟨rfl, _⟩ | ⟨rfl, _⟩ | ⟨rfl, _⟩
        · exact ⟨ho, fun a => by omega, fun a => by omega, fun a => by omega⟩
        · exact ⟨fun _ => ho, fun a => by omega, fun a => by omega, fun a => by omega, fun a => by omega, fun a => by omega, fun a => by omega, fun a => by omega⟩
        · exact ho
      · rw [upd_other _ _ _ _ (fun e => h0 e.symm)]; exact h.own
    · rcases pts_set hj with ⟨rfl, rfl⟩ | ⟨_, hj⟩
      · rw [hu] at hk'; cases hk'
        rcases mk_cases hmk with ⟨rfl, _⟩ | ⟨rfl, _⟩ | ⟨rfl, _⟩
        · trivial
        · trivial
        · exact ⟨fun a => by omega, fun a => by omega, fun a => by omega⟩
      · exact h.stl j t' k' hj hk'
    · rcases pts_set hj with ⟨rfl, rfl⟩ | ⟨_, hj⟩
      · rw [hu] at hk'; cases hk'
        refine ⟨P.cls.length, nw, by rw [hu], by simp, by rw [hnw], hak, ?_⟩
        rcases mk_cases hmk with ⟨rfl, _, h2⟩ | ⟨rfl, _, h2⟩ | ⟨rfl, h2⟩
        · rw [hnw]; exact ⟨h2, rfl⟩
        · rw [hnw]; exact h2
        · rw [hnw]; exact h2
      · obtain ⟨c, x, w1, w2, w3⟩ := h.cal j t' k' hj hk'
        exact ⟨c, x, w1, by show (P.cls ++ [nw])[c]? = _; rw [List.getElem?_append_left (lt w2)]; exact w2, w3⟩
    · rcases app hx with hx | ⟨_, rfl⟩
      · exact h.wf c x hx
      · rw [hnw]; exact hw
    · rcases app hx with hx | ⟨rfl, _⟩
      · rcases h.opn c x hx with h1 | ⟨j, t', g1, g2, g3⟩
        · exact .inl h1
        · refine .inr ⟨j, t', ?_, g2, g3⟩
          show (P.pts.set i u)[j]? = _
          rw [List.getElem?_set_ne]
          · exact g1
          · rintro rfl
            rw [ht] at g1; cases g1
            rw [hidle] at g2; cases g2
      · exact .inr ⟨i, u, List.getElem?_set_self hi, by rw [hu]; rfl, by rw [hu]⟩
    · show (inL (P.cls ++ [nw])).Perm (outL (P.cls ++ [nw]) ++ (hdO r P.ws (P.pts.set i u)[0]? ++ _))
      have e1 : inL (P.cls ++ [nw]) = inL P.cls := by simp [inL, ci_zero hak]
      have e2 : outL (P.cls ++ [nw]) = outL P.cls := by simp [outL, co_zero hak]
      have e3 : hdO r P.ws (P.pts.set i u)[0]? = hdO r P.ws P.pts[0]? := by
        by_cases h0 : i = 0
        · subst h0
          rw [List.getElem?_set_self hi, ht]
          show hdF r P.ws u.tk u.ak u.av = hdF r P.ws t.tk t.ak t.av
          rw [hidle, hu]
          show hdF r P.ws (some k) 0 0 = []
          rcases mk_cases hmk with ⟨rfl, _⟩ | ⟨rfl, _⟩ | ⟨rfl, _⟩ <;> simp [hdF]
        · rw [List.getElem?_set_ne h0]
      rw [e1, e2, e3]
      exact h.bal
theorem Oi.move {r : Nat} {P : Pg Dt Lw} {B : Int} (hI : Iv r P) (h : Oi r P B) (th op arg data : Int) (hw : Wi arg) : ∃ B', Oi r (P.move (dqY r) th op arg data).1 B' := by
  unfold Pg.move
  split
  · exact ⟨B, h⟩
  · rename_i hn
    split
    · split
      · exact ⟨B, h.count⟩
      · rename_i t ht
        split
        · unfold Pg.step
          split
          · exact ⟨B, h.count⟩
          · rename_i k hk
            exact oi_step hI (by omega) h ht hk P.n (by omega) t.fr
        · split
          · exact ⟨B, h.count⟩
          · rename_i hidle
            exact ⟨B, h.count.begins ht (by cases h9 : t.tk with | none => rfl | some k => rw [h9] at hidle; exact absurd rfl hidle) op arg data P.n hw⟩
    · exact ⟨B, h.count⟩
theorem oi_new (nt r : Nat) : Oi r (P0 nt r) 0 := by
  have e0 : rd (P0 nt r).ws 0 = 0 := by show ((List.replicate (2 + r) (0 : Int))[0]?).getD 0 = 0; rw [List.getElem?_replicate]; split <;> rfl
  have e1 : rd (P0 nt r).ws 1 = 0 := by show ((List.replicate (2 + r) (0 : Int))[1]?).getD 0 = 0; rw [List.getElem?_replicate]; split <;> rfl
  have hp : ∀ (i : Nat) (t : Pt Dt), (P0 nt r).pts[i]? = some t → t.tk = none := fun i t ht => by
    have ht' : (List.replicate nt (⟨none, false, -1, 0, 0⟩ : Pt Dt))[i]? = some t := ht
    rw [List.getElem?_replicate] at ht'
    split at ht'
    · cases ht'; rfl
    · cases ht'
  have ht0 : tkF (P0 nt r).pts 0 = none := by
    unfold tkF
    cases h : (P0 nt r).pts[0]? with
    | none => rfl
    | some t => exact hp 0 t h
  refine ⟨by rw [e0]; omega, by rw [e0]; omega, by rw [e0]; omega, Int.le_refl _, by rw [ht0]; exact e1, fun i t k ht hk => ?_, fun i t k ht hk => ?_, fun c x h => (by cases h), fun c x h => (by cases h), ?_⟩
  · rw [hp i t ht] at hk; cases hk
  · rw [hp i t ht] at hk; cases hk
  · rw [e0]
    have : hdO r (P0 nt r).ws (P0 nt r).pts[0]? = [] := by
      cases h : (P0 nt r).pts[0]? with
      | none => rfl
      | some t => show hdF r _ t.tk _ _ = []; rw [hp 0 t h]; rfl
    rw [this]
    exact List.Perm.refl _
theorem pl_once {r : Nat} (ms : List Mv) : ∀ {P : Pg Dt Lw} {B : Int}, Iv r P → Oi r P B → (∀ m ∈ ms, Wi m.arg) → ∃ B', Oi r (Pl r P ms) B' := by
  induction ms with
  | nil => exact fun {P B} _ h _ => ⟨B, h⟩
  | cons x ms ih =>
    intro P B h0 h1 hw
    obtain ⟨B1, h2⟩ := h1.move h0 x.th x.op x.arg x.data (hw x (List.mem_cons_self))
    exact ih (h0.move _ _ _ _) h2 (fun m hm => hw m (List.mem_cons_of_mem _ hm))
theorem wi0 : Wi 0 := by unfold Wi; omega
theorem stN_once {r : Nat} {P : Pg Dt Lw} {B : Int} (h : Iv r P) (hb : Bd P) {i : Nat} (hi : i < P.pts.length) (ho : Oi r P B) : ∀ n, P.n + n ≤ 65536 → ∃ B', Oi r (stN r P i n) B'
  | 0, _ => ⟨B, ho⟩
  | n + 1, hn => by
      obtain ⟨B1, h1⟩ := stN_once h hb hi ho n (by omega)
      obtain ⟨h2, _⟩ := stN_all h hb hi n (by omega)
      rw [stN_succ]
      exact h1.move h2 _ _ _ _ wi0
/-- A step leaves the other threads where they are. -/
theorem mv_other {r : Nat} {P : Pg Dt Lw} {i j : Nat} (hij : j ≠ i) (arg data : Int) : tkF (P.move (dqY r) (i : Int) 0 arg data).1.pts j = tkF P.pts j := by
  unfold Pg.move
  split
  · rfl
  · split
    · rename_i hc
      have hi : i < P.pts.length := by omega
      rw [Int.toNat_natCast]
      split
      · rfl
      · rename_i t ht
        rw [if_pos rfl]
        unfold Pg.step
        split
        · rfl
        · rename_i k hk
          unfold Pg.stepE
          split
          · show tkF (P.pts.set i _) j = _
            rw [tkF_set _ _ _ hi, upd_other _ _ _ _ hij]
          · show tkF (P.pts.set i _) j = _
            rw [tkF_set _ _ _ hi, upd_other _ _ _ _ hij]
    · rfl
theorem stN_other {r : Nat} {P : Pg Dt Lw} {i j : Nat} (hij : j ≠ i) : ∀ n, tkF (stN r P i n).pts j = tkF P.pts j
  | 0 => rfl
  | n + 1 => by rw [stN_succ, mv_other hij]; exact stN_other hij n
theorem st8 {r : Nat} {P : Pg Dt Lw} (h : Iv r P) (hb : Bd P) {i : Nat} (hi : i < P.pts.length) (hn : P.n + 8 ≤ 65536) : tkF (stN r P i 8).pts i = none := by
  obtain ⟨h1, h2, h3, h4, h5⟩ := stN_all h hb hi 8 hn
  have h6 := lf_le h i
  generalize stN r P i 8 = Q at *
  have h7 : lf Q i = 0 := by omega
  obtain ⟨t, ht⟩ : ∃ t, Q.pts[i]? = some t := ⟨_, List.getElem?_eq_getElem (by omega)⟩
  rw [tkF_at ht]
  cases hk : t.tk with
  | none => rfl
  | some k =>
    have e0 : lf Q i = mu (rd Q.ws 0) k := by unfold lf; rw [tkF_at ht, hk]
    have := (mu_le (top := rd Q.ws 0) (h1.tsk i t k ht hk)).1
    omega
/-- The threads below t, eight steps each. -/
def stT (r : Nat) (P : Pg Dt Lw) : Nat → Pg Dt Lw
  | 0 => P
  | t + 1 => stN r (stT r P t) t 8
theorem stT_succ (r : Nat) (P : Pg Dt Lw) (t : Nat) : stT r P (t + 1) = stN r (stT r P t) t 8 := rfl
theorem stT_all {r : Nat} {P : Pg Dt Lw} {B : Int} (h : Iv r P) (hb : Bd P) (ho : Oi r P B) : ∀ m, m ≤ P.pts.length → P.n + 8 * m ≤ 65536 → Iv r (stT r P m) ∧ Bd (stT r P m) ∧ (stT r P m).pts.length = P.pts.length ∧ (stT r P m).n ≤ P.n + 8 * m ∧ (∀ j, j < m → tkF (stT r P m).pts j = none) ∧ ∃ B', Oi r (stT r P m) B'
  | 0, _, _ => ⟨h, hb, rfl, Nat.le_refl _, fun j hj => by omega, B, ho⟩
  | m + 1, hm, hn => by
      obtain ⟨h1, h2, h3, h4, h5, B1, h6⟩ := stT_all h hb ho m (by omega) (by omega)
      rw [stT_succ]
      generalize stT r P m = Q at *
      have hi : m < Q.pts.length := by omega
      obtain ⟨g1, g2, g3, g4, _⟩ := stN_all h1 h2 hi 8 (by omega)
      refine ⟨g1, g2, g3.trans h3, by omega, fun j hj => ?_, stN_once h1 h2 hi h6 8 (by omega)⟩
      by_cases e : j = m
      · subst e; exact st8 h1 h2 hi (by omega)
      · rw [stN_other e]; exact h5 j (by omega)
/-- What is told when no call is on its way. -/
theorem once_end {r nt : Nat} {P : Pg Dt Lw} {B : Int} (hI : Iv r P) (hb : Bd P) (h : Oi r P B) (hd : dqB (nt : Int) (r : Int) = true) (hz : ∀ j, j < P.pts.length → tkF P.pts j = none) :
    (∀ (c : Nat) (x : Cl), P.cls[c]? = some x → 0 ≤ x.fin) ∧ ∃ L, lfR (nt : Int) (r : Int) P.ws = (L, 0) ∧ (inL P.cls).Perm (outL P.cls ++ L) := by
  have hn := hb.n
  have t0 := h.t0
  have tb := h.tb
  have nn := h.nn
  have room := h.room
  have z0 : tkF P.pts 0 = none := by
    by_cases h0 : 0 < P.pts.length
    · exact hz 0 h0
    · unfold tkF; rw [List.getElem?_eq_none (by omega)]; rfl
  have ho := h.own
  rw [z0] at ho
  have ho : rd P.ws 1 = nU B := ho
  refine ⟨fun c x hx => ?_, sg r P.ws (rd P.ws 0) (B - rd P.ws 0).toNat, ?_, ?_⟩
  · rcases h.opn c x hx with h1 | ⟨j, t, g1, g2, _⟩
    · exact h1
    · have := hz j (List.getElem?_eq_some_iff.1 g1).1
      rw [tkF_at g1] at this
      rw [this] at g2; cases g2
  · have e0 : lfT P.ws = rd P.ws 0 := by
      unfold lfT
      rw [List.getD_eq_getElem?_getD]
      show wrap64 (rd P.ws 0) = rd P.ws 0
      exact w64_id _ t0 (by omega)
    have e1 : lfB P.ws = B := by
      unfold lfB
      rw [List.getD_eq_getElem?_getD]
      show wrap64 (rd P.ws 1) = B
      rw [ho]; exact w64_nU _ (by omega) (by omega)
    have hl := hI.len
    unfold lfR
    rw [if_neg (by rw [hd]; decide), if_neg (by rw [hl]; omega), if_pos (by unfold lfOk; rw [e0, e1]; omega), e0, e1, Int.toNat_natCast]
    congr 1
    unfold lfL sg
    apply List.map_congr_left
    intro j _
    unfold lfV cv rd cel
    rw [List.getD_eq_getElem?_getD]
    congr 4
    have : ((rd P.ws 0) + (j : Int)).toNat = (rd P.ws 0).toNat + j := by omega
    unfold rd at this
    rw [this]
  · have hb := h.bal
    have : hdO r P.ws P.pts[0]? = [] := by
      cases h9 : P.pts[0]? with
      | none => rfl
      | some t =>
        show hdF r P.ws t.tk t.ak t.av = []
        rw [tkF_at h9] at z0
        rw [z0]; rfl
    rw [this] at hb
    exact hb
end Go.Proofs.Ytihkcbbbgmjogaa.Dm
/-
  DEQUE: the program's Left.
-/
namespace Go.Proofs.Ytihkcbbbgmjogaa.Dq
open Go.RowKit Mr
set_option linter.unusedVariables false
set_option linter.unusedSimpArgs false
set_option maxRecDepth 100000
theorem lfR_ok {th rm : Int} {ws : List Int} (h1 : dqB th rm = true) (h2 : (ws.length : Int) = 2 + rm) (h3 : lfOk rm ws) : lfR th rm ws = (lfL rm.toNat ws (lfT ws).toNat (lfB ws - lfT ws).toNat, 0) := by
  unfold lfR; rw [if_neg (by rw [h1]; simp), if_neg (by simpa using h2), if_pos h3]
theorem lfR_no {th rm : Int} {ws : List Int} (h1 : dqB th rm = true) (h3 : (ws.length : Int) ≠ 2 + rm ∨ ¬ lfOk rm ws) : lfR th rm ws = ([], 211) := by
  unfold lfR; rw [if_neg (by rw [h1]; simp)]
  by_cases h2 : (ws.length : Int) ≠ 2 + rm
  · rw [if_pos h2]
  · rw [if_neg h2, if_neg (h3.resolve_left h2)]
theorem dqB_in {th rm : Int} (h : dqB th rm = true) : 1 ≤ th ∧ th ≤ 16 ∧ 1 ≤ rm ∧ rm ≤ 256 := by
  simp only [dqB, Bool.and_eq_true, decide_eq_true_eq] at h; omega
theorem LfP.no {w W : World} {x : List Int × Int} {c : Int} (hx : x = ([], c)) (hB : Below w.heap.size w W) : LfP w W x (.returned (.tuple #[.slice none 0 0, .int .i64 c])) := by
  subst hx; exact ⟨none, 0, rfl, ⟨rfl, .inl rfl⟩, hB⟩
set_option maxHeartbeats 8000000 in
theorem Left_chk (th rm : Int) (ws : List Int) (a : Option Addr) (n c : Nat) (w : World) (hW : WdAt w a n ws) (hd : dqB th rm = false) :
    Calls Try.prog 14 #[dV th rm, .slice a n c] w fun e w' => LfP w w' (lfR th rm ws) e := by
  have B0 := bxd_below w th rm
  have b0 := bxd_0 w th rm
  have c0 := cell_blk b0 0
  have c1 := cell_blk b0 1
  have CK := Mr.hid (check_any th rm (w.alloc (.cells #[.int .i64 th, .int .i64 rm] 23)))
  rw [hd] at CK
  have hfin : Hid (∀ W, Below w.heap.size w W → LfP w W (lfR th rm ws) (.returned (.tuple #[.slice none 0 0, .int .i64 210]))) := fun W hB => LfP.no (by unfold lfR; rw [if_pos hd]) hB
  replace B0 := Mr.hid B0
  clear b0 hW hd
  unfold dV at *
  go_enter Try.func14, Try.ntmps14
  go_wp2_with (go_at_call 19; refine CK.out.mono ?_; clear CK; rintro e w2 ⟨rfl, B2⟩; have BB := Mr.hid (B0.out.trans (B2.mono B0.out.size)); clear B2)
  go_ret2
  exact hfin.out _ BB.out
set_option maxHeartbeats 8000000 in
theorem Left_len (th rm : Int) (ws : List Int) (a : Option Addr) (n c : Nat) (w : World) (hW : WdAt w a n ws) (hd : dqB th rm = true) (hl : (ws.length : Int) ≠ 2 + rm) :
    Calls Try.prog 14 #[dV th rm, .slice a n c] w fun e w' => LfP w w' (lfR th rm ws) e := by
  have B0 := bxd_below w th rm
  have b0 := bxd_0 w th rm
  have c0 := cell_blk b0 0
  have c1 := cell_blk b0 1
  obtain ⟨k1, k2, k3, k4⟩ := dqB_in hd
  have CK := Mr.hid (check_any th rm (w.alloc (.cells #[.int .i64 th, .int .i64 rm] 23)))
  have SZ := Mr.hid (fun W => size_any th rm W k3 k4)
  rw [hd] at CK
  have hfin : Hid (∀ W, Below w.heap.size w W → LfP w W (lfR th rm ws) (.returned (.tuple #[.slice none 0 0, .int .i64 211]))) := fun W hB => LfP.no (lfR_no hd (.inl hl)) hB
  have hz : ((n : Int) != 2 + rm) = true := bne_iff_ne.2 (by have := hW.1; omega)
  replace B0 := Mr.hid B0
  have b0' := Mr.hid b0
  clear b0 hW hd hl k1 k2 k3 k4
  unfold dV at *
  go_enter Try.func14, Try.ntmps14
  go_wp2_with (first
    | (go_at_call 19; refine CK.out.mono ?_; clear CK; rintro e w2 ⟨rfl, B2⟩; have d0 := (B2.block _ (Array.getElem?_eq_some_iff.1 b0'.out).1).trans b0'.out; have e0 := cell_blk d0 0; have e1 := cell_blk d0 1; have BB := Mr.hid (B0.out.trans (B2.mono B0.out.size)); clear B2)
    | (go_at_call 21; refine (SZ.out _).mono ?_; clear SZ; rintro e w3 ⟨rfl, B3⟩; have BC := Mr.hid (BB.out.trans (B3.mono BB.out.size)); clear B3))
  go_ret2
  exact hfin.out _ BC.out
set_option maxHeartbeats 16000000 in
theorem Left_go (th : Int) (rn : Nat) (ws : List Int) (a : Option Addr) (n c : Nat) (w : World) (hW : WdAt w a n ws) (hd : dqB th rn = true) (hl : (ws.length : Int) = 2 + rn) :
    Calls Try.prog 14 #[dV th rn, .slice a n c] w fun e w' => LfP w w' (lfR th rn ws) e := by
  have B0 := bxd_below w th rn
  have b0 := bxd_0 w th rn
  have c0 := cell_blk b0 0
  have c1 := cell_blk b0 1
  obtain ⟨k1, k2, k3, k4⟩ := dqB_in hd
  have CK := Mr.hid (check_any th rn (w.alloc (.cells #[.int .i64 th, .int .i64 rn] 23)))
  have SZ := Mr.hid (fun W => size_any th rn W k3 k4)
  rw [hd] at CK
  have hz : ((n : Int) != 2 + (rn : Int)) = false := by have := hW.1; rw [show (n : Int) = 2 + (rn : Int) by omega]; simp
  have hwl := hW.1
  obtain ⟨b, q, rfl, hb, hcell⟩ := hW.2.resolve_left (fun e => by rw [e] at hl; simp at hl; omega)
  have r0 := hcell 0 _ (List.getElem?_eq_getElem (show 0 < ws.length by omega))
  have r1 := hcell 1 _ (List.getElem?_eq_getElem (show 1 < ws.length by omega))
  rw [Nat.add_zero] at r0
  have et : lfT ws = wrap64 (ws[0]'(by omega)) := by unfold lfT; rw [List.getD_eq_getElem?_getD, List.getElem?_eq_getElem (show 0 < ws.length by omega)]; rfl
  have eb : lfB ws = wrap64 (ws[1]'(by omega)) := by unfold lfB; rw [List.getD_eq_getElem?_getD, List.getElem?_eq_getElem (show 1 < ws.length by omega)]; rfl
  generalize (ws[0]'(by omega)) = x0 at r0 et
  generalize (ws[1]'(by omega)) = x1 at r1 eb
  have VA : Hid (∀ x W, Calls Try.prog 29 #[.int .u64 x] W fun e w' => e = .returned (.int .i64 (wrap64 x)) ∧ w' = W) := fun x W => value_any x W
  have n0 : (0 : Int) < (n : Int) := by omega
  have n1 : (1 : Int) < (n : Int) := by omega
  have hlz := Mr.hid hl
  replace B0 := Mr.hid B0
  have b0' := Mr.hid b0
  have hcell' := Mr.hid hcell
  have hwl' := Mr.hid hwl
  have hd' := Mr.hid hd
  have bdT := Mr.hid (wrap64_bd x0)
  have bdB := Mr.hid (wrap64_bd x1)
  replace et := Mr.hid et
  replace eb := Mr.hid eb
  have kk : Hid (1 ≤ rn ∧ rn ≤ 256) := by constructor <;> omega
  clear b0 hW hd hl k1 k2 k3 k4 hcell hwl
  unfold dV at *
  go_enter Try.func14, Try.ntmps14
  go_upto_region 6 with (first
    | (go_at_call 19; refine CK.out.mono ?_; clear CK; rintro e w2 ⟨rfl, B2⟩; have d0 := (B2.block _ (Array.getElem?_eq_some_iff.1 b0'.out).1).trans b0'.out; have e0 := cell_blk d0 0; have e1 := cell_blk d0 1; have BB := Mr.hid (B0.out.trans (B2.mono B0.out.size)); clear B2)
    | (go_at_call 21; refine (SZ.out _).mono ?_; clear SZ; rintro e w3 ⟨rfl, B3⟩; have BC := Mr.hid (BB.out.trans (B3.mono BB.out.size)); replace d0 := (B3.block _ (Array.getElem?_eq_some_iff.1 d0).1).trans d0; clear B3))
  clear c0 c1 e0 e1 hz B0 BB b0'
  replace r0 := (BC.out.cell (p := ⟨b, q, none⟩) hb).trans r0
  replace r1 := (BC.out.cell (p := ⟨b, q + 1, none⟩) hb).trans r1
  have hb3 := Nat.lt_of_lt_of_le hb BC.out.size
  have hb0 := Mr.hid hb
  clear hb
  go_quiet ((go_at_call 29; exact Calls.quiet_of_same (VA.out _ _)))
  have hBz : Hid (Below w.heap.size w (w3.drewN nq)) := draws' BC.out _
  have d0' : (w3.drewN nq).heap[w.heap.size]? = some (.cells #[.int .i64 th, .int .i64 (rn : Int)] 23 (0, 0)) := d0
  clear r0 r1 hb3 BC d0
  generalize w3.drewN nq = w4 at *
  have e1 := cell_blk d0' 1
  have le := (Array.getElem?_eq_some_iff.1 d0').1
  generalize wrap64 x0 = t at *
  generalize wrap64 x1 = bb at *
  by_cases p0 : t < 0
  · have q0 : decide (t < 0) = true := decide_eq_true p0
    have hfin : Hid (LfP w w4 (lfR th rn ws) (.returned (.tuple #[.slice none 0 0, .int .i64 211]))) := LfP.no (lfR_no hd'.out (.inr (fun h => by have := h.1; rw [et.out] at this; omega))) hBz.out
    go_wp2
    go_ret2
    exact hfin.out
  have q0 : decide (t < 0) = false := decide_eq_false p0
  by_cases p1 : 65536 < t
  · have q1 : decide (65536 < t) = true := decide_eq_true p1
    have hfin : Hid (LfP w w4 (lfR th rn ws) (.returned (.tuple #[.slice none 0 0, .int .i64 211]))) := LfP.no (lfR_no hd'.out (.inr (fun h => by have := h.2.1; rw [et.out] at this; omega))) hBz.out
    go_wp2
    go_ret2
    exact hfin.out
  have q1 : decide (65536 < t) = false := decide_eq_false p1
  have hw1 : IntKind.i64.wrap (t - 1) = t - 1 := i64x _ (by omega) (by omega)
  have hw2 : IntKind.i64.wrap (t + (rn : Int)) = t + (rn : Int) := i64x _ (by omega) (by have := kk.out; omega)
  by_cases p2 : bb < t - 1
  · have q2 : decide (bb < t - 1) = true := decide_eq_true p2
    have hfin : Hid (LfP w w4 (lfR th rn ws) (.returned (.tuple #[.slice none 0 0, .int .i64 211]))) := LfP.no (lfR_no hd'.out (.inr (fun h => by have := h.2.2.1; rw [et.out, eb.out] at this; omega))) hBz.out
    go_wp2
    go_ret2
    exact hfin.out
  have q2 : decide (bb < t - 1) = false := decide_eq_false p2
  by_cases p3 : t + (rn : Int) < bb
  · have q3 : decide (t + (rn : Int) < bb) = true := decide_eq_true p3
    have hfin : Hid (LfP w w4 (lfR th rn ws) (.returned (.tuple #[.slice none 0 0, .int .i64 211]))) := LfP.no (lfR_no hd'.out (.inr (fun h => by have := h.2.2.2; rw [et.out, eb.out] at this; omega))) hBz.out
    go_wp2
    go_ret2
    exact hfin.out
  have q3 : decide (t + (rn : Int) < bb) = false := decide_eq_false p3
  obtain ⟨tn, rfl⟩ := Int.eq_ofNat_of_zero_le (show 0 ≤ t by omega)
  obtain ⟨m, hm⟩ : ∃ m, m = (bb - (tn : Int)).toNat := ⟨_, rfl⟩
  have hfin : Hid (∀ (v : Option Addr) (cv : Nat) (W : World), IsAt W v m (lfL rn ws tn m) → Below w.heap.size w W → LfP w W (lfR th rn ws) (.returned (.tuple #[.slice v m cv, .int .i64 0]))) := fun v cv W hI hB => by
    have e := lfR_ok hd'.out hlz.out (show lfOk rn ws from ⟨by rw [et.out]; omega, by rw [et.out]; omega, by rw [et.out, eb.out]; omega, by rw [et.out, eb.out]; omega⟩)
    rw [et.out, eb.out, Int.toNat_natCast, Int.toNat_natCast, ← hm] at e
    rw [e]
    have hll : (lfL rn ws tn m).length = m := by simp [lfL]
    exact ⟨v, cv, by dsimp only; rw [hll], by dsimp only; rw [hll]; exact hI, hB⟩
  have hmb : Hid (m ≤ 256 ∧ tn ≤ 65536 ∧ (∀ i : Nat, i < m → ((tn + i : Nat) : Int) < bb) ∧ ∀ i : Nat, i = m → ¬ ((tn + i : Nat) : Int) < bb) := ⟨by have := kk.out; omega, by omega, fun i hi => by omega, fun i hi => by omega⟩
  replace hm := Mr.hid hm
  have hd0 := Mr.hid d0'
  go_upto_region 11 with fail
  clear q0 q1 q2 q3 p0 p1 p2 p3 hw1 hw2 e1 le d0' n0 n1
  go_loopg [9, 10] m (fun gk s9 s10 wr => ∃ (i : Nat) (v : Value), s9 = v ∧ s10 = .int .i64 ((tn + i : Nat) : Int) ∧ i + gk = m ∧ Has wr (fun k => w4.heap.size ≤ k) 3 1 v i (intsV (lfL rn ws tn i)) ∧ Below w4.heap.size w4 wr)
  case atStart => exact ⟨0, _, rfl, rfl, by omega, Has.nil _ _ _ _, Below.refl _ _⟩
  case round =>
    obtain ⟨i, v, rfl, rfl, hi, hH, hB⟩ := hrel
    obtain ⟨av, cv, rfl, hcv⟩ := hH.form
    have hBw : Hid (Below w.heap.size w wr) := hBz.out.trans (hB.mono hBz.out.size)
    by_cases hlt : i < m
    · have hI := hmb.out.2.2.1 i hlt
      have dl : decide (((tn + i : Nat) : Int) < bb) = true := decide_eq_true hI
      have d1 := (hB.block _ (Array.getElem?_eq_some_iff.1 hd0.out).1).trans hd0.out
      have e1 := cell_blk d1 1
      have le := (Array.getElem?_eq_some_iff.1 d1).1
      obtain ⟨ix, hix⟩ : ∃ ix, ix = 2 + (tn + i) % rn := ⟨_, rfl⟩
      have hixl : ix < ws.length := by have := Nat.mod_lt (tn + i) (show 0 < rn by have := kk.out; omega); have := hlz.out; omega
      have hc := hcell'.out ix _ (List.getElem?_eq_getElem hixl)
      have hc2 := (hBw.out.cell (p := ⟨b, q + ix, none⟩) hb0.out).trans hc
      have lb := Nat.lt_of_lt_of_le hb0.out hBw.out.size
      have CO := Mr.hid (fun W => cellOf_any rn (tn + i) W kk.out.1 kk.out.2 (by have := hmb.out; omega))
      rw [← hix] at CO
      have hxI : (ix : Int) < (n : Int) := by have := hwl'.out; omega
      have hval : Hid (lfV rn ws tn i = wrap64 (ws[ix]'hixl)) := by show _ = _; unfold lfV; rw [← hix, List.getD_eq_getElem?_getD, List.getElem?_eq_getElem hixl]; rfl
      have hnx : Hid (wrap64 (((tn + i : Nat) : Int) + 1) = ((tn + (i + 1) : Nat) : Int)) := by show _ = _; unfold wrap64; have := hmb.out; omega
      have hlt' := Mr.hid hlt
      generalize (ws[ix]'hixl) = xv at hc2 hval
      have VA1 := Mr.hid (fun W => VA.out xv W)
      generalize hyv : wrap64 xv = yv at VA1 hval
      have hH' := Mr.hid hH
      have hB' := Mr.hid hB
      have hi' := Mr.hid hi
      generalize hk0 : ((tn + i : Nat) : Int) = kI at *
      replace hix := Mr.hid hix
      replace hyv := Mr.hid hyv
      obtain ⟨ii, hii, hi0, hi1, hi2⟩ := info_i
      have nq1 := new_at wr (.cells #[.int .i64 yv] 3) _ rfl
      have hro : Hid (Has (wr.alloc (.cells #[.int .i64 yv] 3)) (fun k => w4.heap.size ≤ k) 3 1 (.slice av i cv) i (intsV (lfL rn ws tn i))) := hH.alloc _
      have hsz : Hid (w4.heap.size ≤ wr.heap.size) := hB.size
      clear hH hB hi hlt hc d1 hI hixl VA
      go_wp2_with (first
        | (go_at_call 30; refine (CO.out _).mono ?_; clear CO; rintro e w8 ⟨rfl, hw8⟩; obtain rfl := hw8.symm)
        | (go_at_call 29; refine (VA1.out _).mono ?_; clear VA1; rintro e w8 ⟨rfl, hw8⟩; obtain rfl := hw8.symm)
        | (at_builtin; refine wpList_append_has _ rfl _ _ 46 rfl (fun k => w4.heap.size ≤ k) 3 ii _ 1 8 Try.underlying46 hii hi0 hi1 hi2 rfl (.slice av i cv) i (intsV (lfL rn ws tn i)) rfl hro.out ⟨wr.heap.size, 0, none⟩ 1 1 [.int .i64 yv] rfl rfl (by
            intro j u hj
            rw [add1]
            match j, hj with
            | 0, hj => cases hj; exact cell_blk nq1 0) (by simp [Value.oneCell']) (by omega) (by have := hmb.out; have := hi'.out; unfold maxLen; omega) (by have := hmb.out; have := hi'.out; omega) (by have := hsz.out; simp; omega) ?_; intro g4 cap4 w9 hh9 hgr9 hgg9))
      have RN : Hid (Has w9 (fun k => w4.heap.size ≤ k) 3 1 (.slice (some ⟨g4, 0, none⟩) (i + 1) cap4) (i + 1) (intsV (lfL rn ws tn (i + 1)))) := by
        show Has _ _ _ _ _ _ _
        rw [lfL_succ, hval.out]
        have e : intsV (lfL rn ws tn i ++ [yv]) = intsV (lfL rn ws tn i) ++ [.int .i64 yv] := by simp [intsV]
        rw [e]; exact hh9
      have BN : Hid (Below w4.heap.size w4 w9) := (hB'.out.alloc hB'.out.size _).grown hgr9 (by have := hsz.out; simp; omega) (fun k hk => (hro.out.lt k hk).1)
      clear hh9 hgr9 hgg9
      go_roundg (gk - 1)
      case measure => have := hi'.out; have := hlt'.out; omega
      case rel => exact ⟨i + 1, _, rfl, by rw [← hnx.out], by have := hi'.out; have := hlt'.out; omega, RN.out, BN.out⟩
    · obtain rfl : i = m := by omega
      have hI := hmb.out.2.2.2 i rfl
      have dl : decide (((tn + i : Nat) : Int) < bb) = false := decide_eq_false (by omega)
      have FN := Mr.hid (hfin.out av cv wr (has_is hH) hBw.out)
      generalize ((tn + i : Nat) : Int) = kI at *
      clear hi hlt hH hB
      go_wp2
      go_ret2
      exact FN.out
theorem Left_any (th rm : Int) (ws : List Int) (a : Option Addr) (n c : Nat) (w : World) (hW : WdAt w a n ws) :
    Calls Try.prog 14 #[dV th rm, .slice a n c] w fun e w' => LfP w w' (lfR th rm ws) e := by
  cases hd : dqB th rm with
  | false => exact Left_chk th rm ws a n c w hW hd
  | true =>
    by_cases hl : (ws.length : Int) = 2 + rm
    · obtain ⟨rn, rfl⟩ := Int.eq_ofNat_of_zero_le (show 0 ≤ rm by have := dqB_in hd; omega)
      exact Left_go th rn ws a n c w hW hd hl
    · exact Left_len th rm ws a n c w hW hd hl
end Go.Proofs.Ytihkcbbbgmjogaa.Dq
