import Derived.Test.YtnapnhmmopajfaaGreatJ28
import Derived.Test.YtnapnhmmopajfaaGreatJ29
/-
  THE DOCUMENT's DEQUE: each line beside the program's step (made by mk_rdcase.py).
-/
namespace Go.Proofs.YtnapnhmmopajfaaGreat.Rd
open Go.RowKit Mr Me Ma Gm Dm
set_option linter.unusedVariables false
set_option linter.unusedSimpArgs false
/-- What is given. -/
structure Gv (W0 : World) (U0 : Nat → Prop) (q : Rc) (s : Rs) (W : World) (P : Pg Dt Lw) (i : Nat) (t : Pt Dt) (c : Nat) (cl : Cl) (u : Rt) : Prop where
  o : OutR W0 U0 q s W
  sm : Sm P s
  n : s.n = P.n
  iv : Iv q.r P
  bd : Bd P
  lt : P.n < 65536
  ht : P.pts[i]? = some t
  call : t.call = c
  hc : P.cls[c]? = some cl
  hu : s.ths[i]? = some u
  uc : u.call = c
/-- What a step leaves. -/
def Dn (W0 : World) (U0 : Nat → Prop) (q : Rc) (n : Nat) (Q : Pg Dt Lw) (e : Ending) (w' : World) : Prop :=
  e = .returned (.tuple #[]) ∧ ∃ s', OutR W0 U0 q s' w' ∧ s'.n = n ∧ Sm Q s'
theorem ws_set {P : Pg Dt Lw} {s : Rs} (h : Sm P s) {ad : Nat} {x y : Int} (e : wrap64 y = x) : s.ws.set ad x = (P.ws.set ad y).map wrap64 := by
  rw [h.ws, List.map_set, e]
theorem wu_set {P : Pg Dt Lw} {s : Rs} (h : Sm P s) {ad : Nat} {y : Int} (hy : Uw y) : ∀ (a : Nat) (x : Int), (P.ws.set ad y)[a]? = some x → Uw x := by
  intro a x hx
  rw [List.getElem?_set] at hx
  split at hx
  · split at hx
    · obtain rfl := Option.some.inj hx; exact hy
    · cases hx
  · exact h.wu a x hx
theorem lg_eq {P : Pg Dt Lw} {s : Rs} (h : Sm P s) {a b : Acc} (e : a = b) : s.lg ++ [a] = P.lg ++ [b] := by rw [h.lg, e]
theorem ld_eq {P : Pg Dt Lw} {s : Rs} (hn : s.n = P.n) {i ad : Nat} (hU : Uw (Dm.rd P.ws ad)) : (⟨s.n, i, 1, ((ad : Nat) : Int), 0, 0, uw (wrap64 (Dm.rd P.ws ad))⟩ : Acc) = ldA i P.n ad P.ws := by
  unfold ldA; rw [hn, uw_wrap hU]
theorem st_eq {P : Pg Dt Lw} {s : Rs} (hn : s.n = P.n) {i ad : Nat} (y : Int) : (⟨s.n, i, 2, ((ad : Nat) : Int), 0, uw y, 0⟩ : Acc) = stA i P.n ad (nU y) := by
  unfold stA; rw [hn, uw_nU]
theorem sw_eq {P : Pg Dt Lw} {s : Rs} (hn : s.n = P.n) {i : Nat} {t x : Int} (h1 : 0 ≤ t ∧ t ≤ 100000) (h2 : 0 ≤ x ∧ x ≤ 100000) : (⟨s.n, i, 3, 0, uw t, uw (t + 1), uw x⟩ : Acc) = swA i P.n 0 t (t + 1) x := by
  unfold swA
  rw [hn, uw_sm (x := t) (by omega) (by omega), uw_sm (x := t + 1) (by omega) (by omega), uw_sm (x := x) (by omega) (by omega)]; rfl
section
variable {W0 W : World} {U0 : Nat → Prop} {q : Rc} {s : Rs} {P : Pg Dt Lw} {i : Nat} {t : Pt Dt} {c : Nat} {cl : Cl} {u : Rt}
theorem Gv.all (G : Gv W0 U0 q s W P i t c cl u) : s.lg.length ≤ 100000 ∧ 1 ≤ q.r ∧ q.r ≤ 256 ∧ s.cls[c]? = some cl ∧ P.ws.length = 2 + q.r ∧ (0 ≤ rd P.ws 0 ∧ rd P.ws 0 ≤ P.n) ∧ wrap64 (rd P.ws 0) = rd P.ws 0 ∧ (-1 ≤ wrap64 (rd P.ws 1) ∧ wrap64 (rd P.ws 1) ≤ P.n) ∧ (∀ k, t.tk = some k → Ok i P.n k) := by
  obtain ⟨b, b1, b2, b3, _⟩ := G.iv.bot
  have h0 := G.iv.top
  have hlt := G.lt
  refine ⟨?_, G.iv.r1, G.iv.r2, by rw [G.sm.cls]; exact G.hc, G.iv.len, h0, w64_id _ h0.1 (by omega), ?_, fun k hk => G.iv.tsk i t k G.ht hk⟩
  · rw [G.sm.lg]; have := G.bd.lg; omega
  · rw [b1, w64_nU b b2 (by omega)]; exact ⟨b2, b3⟩
theorem Gv.drew (G : Gv W0 U0 q s W P i t c cl u) (n : Nat) : Gv W0 U0 q s (W.drewN n) P i t c cl u := ⟨OutR.eqv G.o rfl rfl rfl rfl, G.sm, G.n, G.iv, G.bd, G.lt, G.ht, G.call, G.hc, G.hu, G.uc⟩
theorem cls_no (G : Gv W0 U0 q s W P i t c cl u) : s.cls = setP P.cls c none := G.sm.cls
theorem cls_pt (G : Gv W0 U0 q s W P i t c cl u) {m : Int} {p : Option Int} (h : p = some m) : s.cls.set c { cl with pt := m } = setP P.cls c p := by rw [h, G.sm.cls, setP_at G.hc]
theorem cls_end (G : Gv W0 U0 q s W P i t c cl u) {ak av : Int} (h : ak ≠ 0) : s.cls.set c { cl with fin := s.n, ak := ak, av := av } = setE (setP P.cls c none) c P.n ak av := by
  rw [setP_no, setE_at G.hc _ _ _ h, G.sm.cls, G.n]
theorem cls_pe (G : Gv W0 U0 q s W P i t c cl u) {ak av m : Int} {p : Option Int} (hp : p = some m) (h : ak ≠ 0) : s.cls.set c { cl with pt := m, fin := s.n, ak := ak, av := av } = setE (setP P.cls c p) c P.n ak av := by
  rw [hp, setP_at G.hc, setE_at (set_at _ G.hc) _ _ _ h, List.set_set, G.sm.cls, G.n]
theorem cs_push_1 (G : Gv W0 U0 q s W P i t c cl u) {v b tt l : Int} (hk : t.tk = some (.push 1 v b)) (K : KR cl t.ak t.av (.push 1 v b) u) :
    Calls Tryz.prog 53 #[.pointer (some ⟨q.b, 0, none⟩), .int .i64 (i : Int)] W (Dn W0 U0 q P.n (P.count.stepE i t P.n (stp q.r t.fr i P.n P.ws P.g (.push 1 v b)))) := by
  obtain ⟨hl, hr1, hr, hc, hw, h0, w0, h1, hok⟩ := G.all
  have ok := hok _ hk
  simp only [Ok] at ok
  have hlt := G.lt
  have hn := G.n
  have hu := G.hu
  have uc := G.uc
  obtain ⟨uc', ul, ub, ut, uv⟩ := u
  simp only at uc
  subst uc
  simp only [KR] at K
  obtain ⟨k1, k2, k3, k4, k5⟩ := K
  obtain rfl : ul = 1 := k4
  refine (push_1 G.o hl hr1 hr hu hc _ (G.sm.rdw (a := 1) (by omega)).1).mono ?_
  rintro e w' ⟨rfl, h⟩
  refine ⟨rfl, _, h, hn, G.sm.stepE G.ht G.call G.hc _ _ _ (G.sm.ws) (G.sm.wu) (lg_eq G.sm (ld_eq hn (G.sm.rdw (a := 1) (by omega)).2)) (G.sm.g) rfl ?_⟩
  exact ⟨cls_no (s := s) G, rfl, k1, k2, k3, rfl, fun _ => rfl⟩
theorem cs_push_2a (G : Gv W0 U0 q s W P i t c cl u) {v b tt l : Int} (hk : t.tk = some (.push 2 v b)) (K : KR cl t.ak t.av (.push 2 v b) u) (hy : (q.r : Int) ≤ b - wrap64 (rd P.ws 0)) :
    Calls Tryz.prog 53 #[.pointer (some ⟨q.b, 0, none⟩), .int .i64 (i : Int)] W (Dn W0 U0 q P.n (P.count.stepE i t P.n (stp q.r t.fr i P.n P.ws P.g (.push 2 v b)))) := by
  obtain ⟨hl, hr1, hr, hc, hw, h0, w0, h1, hok⟩ := G.all
  have ok := hok _ hk
  simp only [Ok] at ok
  have hlt := G.lt
  have hn := G.n
  have hu := G.hu
  have uc := G.uc
  obtain ⟨uc', ul, ub, ut, uv⟩ := u
  simp only at uc
  subst uc
  simp only [KR] at K
  obtain ⟨k1, k2, k3, k4, k5⟩ := K
  obtain rfl : ul = 2 := k4
  obtain rfl : b = ub := (k5 (by decide)).symm
  have E : stp q.r t.fr i P.n P.ws P.g (.push 2 v b) = _ := if_pos hy
  rw [E]
  refine (push_2a G.o hl hr1 hr hu hc _ (G.sm.rdw (a := 0) (by omega)).1 (by omega) (by rw [w0]; omega) hy).mono ?_
  rintro e w' ⟨rfl, h⟩
  refine ⟨rfl, _, h, hn, G.sm.stepE G.ht G.call G.hc _ _ _ (G.sm.ws) (G.sm.wu) (lg_eq G.sm (ld_eq hn (G.sm.rdw (a := 0) (by omega)).2)) (G.sm.g) rfl ?_⟩
  exact ⟨cls_pe (s := s) G (congrArg some hn.symm) (by decide), rfl⟩
theorem cs_push_2b (G : Gv W0 U0 q s W P i t c cl u) {v b tt l : Int} (hk : t.tk = some (.push 2 v b)) (K : KR cl t.ak t.av (.push 2 v b) u) (hy : ¬ (q.r : Int) ≤ b - wrap64 (rd P.ws 0)) :
    Calls Tryz.prog 53 #[.pointer (some ⟨q.b, 0, none⟩), .int .i64 (i : Int)] W (Dn W0 U0 q P.n (P.count.stepE i t P.n (stp q.r t.fr i P.n P.ws P.g (.push 2 v b)))) := by
  obtain ⟨hl, hr1, hr, hc, hw, h0, w0, h1, hok⟩ := G.all
  have ok := hok _ hk
  simp only [Ok] at ok
  have hlt := G.lt
  have hn := G.n
  have hu := G.hu
  have uc := G.uc
  obtain ⟨uc', ul, ub, ut, uv⟩ := u
  simp only at uc
  subst uc
  simp only [KR] at K
  obtain ⟨k1, k2, k3, k4, k5⟩ := K
  obtain rfl : ul = 2 := k4
  obtain rfl : b = ub := (k5 (by decide)).symm
  have E : stp q.r t.fr i P.n P.ws P.g (.push 2 v b) = _ := if_neg hy
  rw [E]
  refine (push_2b G.o hl hr1 hr hu hc _ (G.sm.rdw (a := 0) (by omega)).1 (by omega) (by rw [w0]; omega) hy).mono ?_
  rintro e w' ⟨rfl, h⟩
  refine ⟨rfl, _, h, hn, G.sm.stepE G.ht G.call G.hc _ _ _ (G.sm.ws) (G.sm.wu) (lg_eq G.sm (ld_eq hn (G.sm.rdw (a := 0) (by omega)).2)) (G.sm.g) rfl ?_⟩
  exact ⟨cls_no (s := s) G, rfl, k1, k2, k3, rfl, fun _ => rfl⟩
theorem cs_push_3 (G : Gv W0 U0 q s W P i t c cl u) {v b tt l : Int} (hk : t.tk = some (.push 3 v b)) (K : KR cl t.ak t.av (.push 3 v b) u) :
    Calls Tryz.prog 53 #[.pointer (some ⟨q.b, 0, none⟩), .int .i64 (i : Int)] W (Dn W0 U0 q P.n (P.count.stepE i t P.n (stp q.r t.fr i P.n P.ws P.g (.push 3 v b)))) := by
  obtain ⟨hl, hr1, hr, hc, hw, h0, w0, h1, hok⟩ := G.all
  have ok := hok _ hk
  simp only [Ok] at ok
  have hlt := G.lt
  have hn := G.n
  have hu := G.hu
  have uc := G.uc
  obtain ⟨uc', ul, ub, ut, uv⟩ := u
  simp only at uc
  subst uc
  simp only [KR] at K
  obtain ⟨k1, k2, k3, k4, k5⟩ := K
  obtain rfl : ul = 3 := k4
  obtain rfl : b = ub := (k5 (by decide)).symm
  obtain rfl := k2
  obtain ⟨k, rfl⟩ := Int.eq_ofNat_of_zero_le (show 0 ≤ b by omega)
  have hce : ce q.r k < P.ws.length := by rw [hw]; unfold ce; have := Nat.mod_lt k (show 0 < q.r by omega); omega
  refine (push_3 G.o hl hr1 hr hu hc (by omega)).mono ?_
  rintro e w' ⟨rfl, h⟩
  refine ⟨rfl, _, h, hn, G.sm.stepE G.ht G.call G.hc _ _ _ (ws_set G.sm (wrap_nU k3)) (wu_set G.sm (uw_nU_uw _)) (lg_eq G.sm (st_eq hn (cl.arg))) (G.sm.g) rfl ?_⟩
  exact ⟨cls_no (s := s) G, rfl, k1, rfl, k3, rfl, fun _ => rfl⟩
theorem cs_push_4 (G : Gv W0 U0 q s W P i t c cl u) {v b tt l : Int} (hk : t.tk = some (.push 4 v b)) (K : KR cl t.ak t.av (.push 4 v b) u) :
    Calls Tryz.prog 53 #[.pointer (some ⟨q.b, 0, none⟩), .int .i64 (i : Int)] W (Dn W0 U0 q P.n (P.count.stepE i t P.n (stp q.r t.fr i P.n P.ws P.g (.push 4 v b)))) := by
  obtain ⟨hl, hr1, hr, hc, hw, h0, w0, h1, hok⟩ := G.all
  have ok := hok _ hk
  simp only [Ok] at ok
  have hlt := G.lt
  have hn := G.n
  have hu := G.hu
  have uc := G.uc
  obtain ⟨uc', ul, ub, ut, uv⟩ := u
  simp only at uc
  subst uc
  simp only [KR] at K
  obtain ⟨k1, k2, k3, k4, k5⟩ := K
  obtain rfl : ul = 4 := k4
  obtain rfl : b = ub := (k5 (by decide)).symm
  refine (push_4 G.o hl hr1 hr hu hc (by omega)).mono ?_
  rintro e w' ⟨rfl, h⟩
  refine ⟨rfl, _, h, hn, G.sm.stepE G.ht G.call G.hc _ _ _ (ws_set G.sm (w64_nU _ (by omega) (by omega))) (wu_set G.sm (uw_nU_uw _)) (lg_eq G.sm (st_eq hn (b + 1))) (G.sm.g) rfl ?_⟩
  exact ⟨cls_pe (s := s) G (congrArg some hn.symm) (by decide), rfl⟩
theorem cs_take_1 (G : Gv W0 U0 q s W P i t c cl u) {v b tt l : Int} (hk : t.tk = some (.take 1 l tt v)) (K : KR cl t.ak t.av (.take 1 l tt v) u) :
    Calls Tryz.prog 54 #[.pointer (some ⟨q.b, 0, none⟩), .int .i64 (i : Int)] W (Dn W0 U0 q P.n (P.count.stepE i t P.n (stp q.r t.fr i P.n P.ws P.g (.take 1 l tt v)))) := by
  obtain ⟨hl, hr1, hr, hc, hw, h0, w0, h1, hok⟩ := G.all
  have ok := hok _ hk
  simp only [Ok] at ok
  have hlt := G.lt
  have hn := G.n
  have hu := G.hu
  have uc := G.uc
  obtain ⟨uc', ul, ub, ut, uv⟩ := u
  simp only at uc
  subst uc
  simp only [KR] at K
  obtain ⟨k1, k2, k3, k4, k5, k6, k7, k8⟩ := K
  obtain rfl : ul = 1 := k2 (by decide)
  obtain rfl : ub = 0 := k3 (by trivial)
  refine (take_1 G.o hl hr1 hr hu hc _ (G.sm.rdw (a := 1) (by omega)).1 (by omega)).mono ?_
  rintro e w' ⟨rfl, h⟩
  refine ⟨rfl, _, h, hn, G.sm.stepE G.ht G.call G.hc _ _ _ (G.sm.ws) (G.sm.wu) (lg_eq G.sm (ld_eq hn (G.sm.rdw (a := 1) (by omega)).2)) (G.sm.g) rfl ?_⟩
  exact ⟨cls_no (s := s) G, rfl, k1, fun _ => rfl, fun h => absurd h (by decide), fun _ => by show wrap64 (rd P.ws 1) = wrap64 (rd P.ws 1) - 1 + 1; omega, fun h => absurd h (by decide), fun h => absurd h (by decide), fun h => absurd h (by decide), fun h => absurd h (by decide)⟩
theorem cs_take_2 (G : Gv W0 U0 q s W P i t c cl u) {v b tt l : Int} (hk : t.tk = some (.take 2 l tt v)) (K : KR cl t.ak t.av (.take 2 l tt v) u) :
    Calls Tryz.prog 54 #[.pointer (some ⟨q.b, 0, none⟩), .int .i64 (i : Int)] W (Dn W0 U0 q P.n (P.count.stepE i t P.n (stp q.r t.fr i P.n P.ws P.g (.take 2 l tt v)))) := by
  obtain ⟨hl, hr1, hr, hc, hw, h0, w0, h1, hok⟩ := G.all
  have ok := hok _ hk
  simp only [Ok] at ok
  have hlt := G.lt
  have hn := G.n
  have hu := G.hu
  have uc := G.uc
  obtain ⟨uc', ul, ub, ut, uv⟩ := u
  simp only at uc
  subst uc
  simp only [KR] at K
  obtain ⟨k1, k2, k3, k4, k5, k6, k7, k8⟩ := K
  obtain rfl : ul = 2 := k2 (by decide)
  obtain rfl : ub = l + 1 := k4 (by decide)
  have lb : l + 1 - 1 = l := by omega
  refine (take_2 G.o hl hr1 hr hu hc (by omega)).mono ?_
  rintro e w' ⟨rfl, h⟩
  simp only [lb] at h
  refine ⟨rfl, _, h, hn, G.sm.stepE G.ht G.call G.hc _ _ _ (ws_set G.sm (w64_nU _ (by omega) (by omega))) (wu_set G.sm (uw_nU_uw _)) (lg_eq G.sm (st_eq hn (l))) (⟨hn, rfl, by omega⟩) rfl ?_⟩
  exact ⟨cls_pt (s := s) G (congrArg some hn.symm), rfl, k1, fun _ => rfl, fun h => absurd h (by decide), fun _ => rfl, fun h => absurd h (by decide), fun h => absurd h (by decide), fun h => absurd h (by decide), fun h => absurd h (by decide)⟩
theorem cs_take_3a (G : Gv W0 U0 q s W P i t c cl u) {v b tt l : Int} (hk : t.tk = some (.take 3 l tt v)) (K : KR cl t.ak t.av (.take 3 l tt v) u) (hy : l < wrap64 (rd P.ws 0)) :
    Calls Tryz.prog 54 #[.pointer (some ⟨q.b, 0, none⟩), .int .i64 (i : Int)] W (Dn W0 U0 q P.n (P.count.stepE i t P.n (stp q.r t.fr i P.n P.ws P.g (.take 3 l tt v)))) := by
  obtain ⟨hl, hr1, hr, hc, hw, h0, w0, h1, hok⟩ := G.all
  have ok := hok _ hk
  simp only [Ok] at ok
  have hlt := G.lt
  have hn := G.n
  have hu := G.hu
  have uc := G.uc
  obtain ⟨uc', ul, ub, ut, uv⟩ := u
  simp only at uc
  subst uc
  simp only [KR] at K
  obtain ⟨k1, k2, k3, k4, k5, k6, k7, k8⟩ := K
  obtain rfl : ul = 3 := k2 (by decide)
  obtain rfl : ub = l + 1 := k4 (by decide)
  have lb : l + 1 - 1 = l := by omega
  have E : stp q.r t.fr i P.n P.ws P.g (.take 3 l tt v) = _ := if_pos hy
  rw [E]
  refine (take_3a G.o hl hr1 hr hu hc _ (G.sm.rdw (a := 0) (by omega)).1 (by omega) (by omega)).mono ?_
  rintro e w' ⟨rfl, h⟩
  refine ⟨rfl, _, h, hn, G.sm.stepE G.ht G.call G.hc _ _ _ (G.sm.ws) (G.sm.wu) (lg_eq G.sm (ld_eq hn (G.sm.rdw (a := 0) (by omega)).2)) (G.sm.g) rfl ?_⟩
  exact ⟨cls_pt (s := s) G (congrArg some hn.symm), rfl, k1, fun _ => rfl, fun h => absurd h (by decide), fun _ => rfl, fun _ => rfl, fun h => absurd h (by decide), fun _ => ⟨rfl, rfl⟩, fun h => absurd h (by decide)⟩
theorem cs_take_3b (G : Gv W0 U0 q s W P i t c cl u) {v b tt l : Int} (hk : t.tk = some (.take 3 l tt v)) (K : KR cl t.ak t.av (.take 3 l tt v) u) (hy : ¬ l < wrap64 (rd P.ws 0)) :
    Calls Tryz.prog 54 #[.pointer (some ⟨q.b, 0, none⟩), .int .i64 (i : Int)] W (Dn W0 U0 q P.n (P.count.stepE i t P.n (stp q.r t.fr i P.n P.ws P.g (.take 3 l tt v)))) := by
  obtain ⟨hl, hr1, hr, hc, hw, h0, w0, h1, hok⟩ := G.all
  have ok := hok _ hk
  simp only [Ok] at ok
  have hlt := G.lt
  have hn := G.n
  have hu := G.hu
  have uc := G.uc
  obtain ⟨uc', ul, ub, ut, uv⟩ := u
  simp only at uc
  subst uc
  simp only [KR] at K
  obtain ⟨k1, k2, k3, k4, k5, k6, k7, k8⟩ := K
  obtain rfl : ul = 3 := k2 (by decide)
  obtain rfl : ub = l + 1 := k4 (by decide)
  have lb : l + 1 - 1 = l := by omega
  have E : stp q.r t.fr i P.n P.ws P.g (.take 3 l tt v) = _ := if_neg hy
  rw [E]
  refine (take_3b G.o hl hr1 hr hu hc _ (G.sm.rdw (a := 0) (by omega)).1 (by omega) (by omega)).mono ?_
  rintro e w' ⟨rfl, h⟩
  refine ⟨rfl, _, h, hn, G.sm.stepE G.ht G.call G.hc _ _ _ (G.sm.ws) (G.sm.wu) (lg_eq G.sm (ld_eq hn (G.sm.rdw (a := 0) (by omega)).2)) (G.sm.g) rfl ?_⟩
  exact ⟨cls_no (s := s) G, rfl, k1, fun _ => rfl, fun h => absurd h (by decide), fun _ => rfl, fun _ => rfl, fun h => absurd h (by decide), fun h => absurd h (by decide), fun h => absurd h (by decide)⟩
theorem cs_take_4 (G : Gv W0 U0 q s W P i t c cl u) {v b tt l : Int} (hk : t.tk = some (.take 4 l tt v)) (K : KR cl t.ak t.av (.take 4 l tt v) u) :
    Calls Tryz.prog 54 #[.pointer (some ⟨q.b, 0, none⟩), .int .i64 (i : Int)] W (Dn W0 U0 q P.n (P.count.stepE i t P.n (stp q.r t.fr i P.n P.ws P.g (.take 4 l tt v)))) := by
  obtain ⟨hl, hr1, hr, hc, hw, h0, w0, h1, hok⟩ := G.all
  have ok := hok _ hk
  simp only [Ok] at ok
  have hlt := G.lt
  have hn := G.n
  have hu := G.hu
  have uc := G.uc
  obtain ⟨uc', ul, ub, ut, uv⟩ := u
  simp only at uc
  subst uc
  simp only [KR] at K
  obtain ⟨k1, k2, k3, k4, k5, k6, k7, k8⟩ := K
  obtain rfl : ul = 4 := k2 (by decide)
  obtain rfl : ub = l + 1 := k4 (by decide)
  obtain rfl : tt = ut := (k5 (by decide)).symm
  obtain ⟨ka, kb⟩ := k7 (by trivial)
  refine (take_4 G.o hl hr1 hr hu hc (by omega)).mono ?_
  rintro e w' ⟨rfl, h⟩
  refine ⟨rfl, _, h, hn, G.sm.stepE G.ht G.call G.hc _ _ _ (ws_set G.sm (w64_nU _ (by omega) (by omega))) (wu_set G.sm (uw_nU_uw _)) (lg_eq G.sm (st_eq hn (tt))) (rfl) rfl ?_⟩
  refine ⟨?_, rfl⟩
  show _ = setE (setP P.cls c none) c P.n t.ak t.av
  rw [ka, kb]
  exact cls_end (s := s) G (by decide)
theorem cs_take_5a (G : Gv W0 U0 q s W P i t c cl u) {v b tt l : Int} (hk : t.tk = some (.take 5 l tt v)) (K : KR cl t.ak t.av (.take 5 l tt v) u) (hy : tt < l) :
    Calls Tryz.prog 54 #[.pointer (some ⟨q.b, 0, none⟩), .int .i64 (i : Int)] W (Dn W0 U0 q P.n (P.count.stepE i t P.n (stp q.r t.fr i P.n P.ws P.g (.take 5 l tt v)))) := by
  obtain ⟨hl, hr1, hr, hc, hw, h0, w0, h1, hok⟩ := G.all
  have ok := hok _ hk
  simp only [Ok] at ok
  have hlt := G.lt
  have hn := G.n
  have hu := G.hu
  have uc := G.uc
  obtain ⟨uc', ul, ub, ut, uv⟩ := u
  simp only at uc
  subst uc
  simp only [KR] at K
  obtain ⟨k1, k2, k3, k4, k5, k6, k7, k8⟩ := K
  obtain rfl : ul = 5 := k2 (by decide)
  obtain rfl : ub = l + 1 := k4 (by decide)
  obtain rfl : tt = ut := (k5 (by decide)).symm
  obtain ⟨k, rfl⟩ := Int.eq_ofNat_of_zero_le (show 0 ≤ l by have := ok.2.2.2.2.2 (by trivial); have := ok.2.2.2.2.1 (by decide); omega)
  have hce : ce q.r k < P.ws.length := by rw [hw]; unfold ce; have := Nat.mod_lt k (show 0 < q.r by omega); omega
  have E : stp q.r t.fr i P.n P.ws P.g (.take 5 (k : Int) tt v) = _ := if_pos hy
  rw [E]
  refine (take_5a G.o hl hr1 hr hu hc (by omega) _ (G.sm.rdw (a := ce q.r k) hce).1 hy).mono ?_
  rintro e w' ⟨rfl, h⟩
  refine ⟨rfl, _, h, hn, G.sm.stepE G.ht G.call G.hc _ _ _ (G.sm.ws) (G.sm.wu) (lg_eq G.sm (ld_eq hn (G.sm.rdw (a := ce q.r k) hce).2)) (rfl) rfl ?_⟩
  exact ⟨cls_end (s := s) G (by decide), rfl⟩
theorem cs_take_5b (G : Gv W0 U0 q s W P i t c cl u) {v b tt l : Int} (hk : t.tk = some (.take 5 l tt v)) (K : KR cl t.ak t.av (.take 5 l tt v) u) (hy : ¬ tt < l) :
    Calls Tryz.prog 54 #[.pointer (some ⟨q.b, 0, none⟩), .int .i64 (i : Int)] W (Dn W0 U0 q P.n (P.count.stepE i t P.n (stp q.r t.fr i P.n P.ws P.g (.take 5 l tt v)))) := by
  obtain ⟨hl, hr1, hr, hc, hw, h0, w0, h1, hok⟩ := G.all
  have ok := hok _ hk
  simp only [Ok] at ok
  have hlt := G.lt
  have hn := G.n
  have hu := G.hu
  have uc := G.uc
  obtain ⟨uc', ul, ub, ut, uv⟩ := u
  simp only at uc
  subst uc
  simp only [KR] at K
  obtain ⟨k1, k2, k3, k4, k5, k6, k7, k8⟩ := K
  obtain rfl : ul = 5 := k2 (by decide)
  obtain rfl : ub = l + 1 := k4 (by decide)
  obtain rfl : tt = ut := (k5 (by decide)).symm
  obtain ⟨k, rfl⟩ := Int.eq_ofNat_of_zero_le (show 0 ≤ l by have := ok.2.2.2.2.2 (by trivial); have := ok.2.2.2.2.1 (by decide); omega)
  have hce : ce q.r k < P.ws.length := by rw [hw]; unfold ce; have := Nat.mod_lt k (show 0 < q.r by omega); omega
  have E : stp q.r t.fr i P.n P.ws P.g (.take 5 (k : Int) tt v) = _ := if_neg hy
  rw [E]
  refine (take_5b G.o hl hr1 hr hu hc (by omega) _ (G.sm.rdw (a := ce q.r k) hce).1 hy).mono ?_
  rintro e w' ⟨rfl, h⟩
  refine ⟨rfl, _, h, hn, G.sm.stepE G.ht G.call G.hc _ _ _ (G.sm.ws) (G.sm.wu) (lg_eq G.sm (ld_eq hn (G.sm.rdw (a := ce q.r k) hce).2)) (G.sm.g) rfl ?_⟩
  exact ⟨cls_no (s := s) G, rfl, k1, fun _ => rfl, fun h => absurd h (by decide), fun _ => rfl, fun _ => rfl, fun _ => rfl, fun h => absurd h (by decide), fun h => absurd h (by decide)⟩
theorem cs_take_6a (G : Gv W0 U0 q s W P i t c cl u) {v b tt l : Int} (hk : t.tk = some (.take 6 l tt v)) (K : KR cl t.ak t.av (.take 6 l tt v) u) (hy : rd P.ws 0 = tt) :
    Calls Tryz.prog 54 #[.pointer (some ⟨q.b, 0, none⟩), .int .i64 (i : Int)] W (Dn W0 U0 q P.n (P.count.stepE i t P.n (stp q.r t.fr i P.n P.ws P.g (.take 6 l tt v)))) := by
  obtain ⟨hl, hr1, hr, hc, hw, h0, w0, h1, hok⟩ := G.all
  have ok := hok _ hk
  simp only [Ok] at ok
  have hlt := G.lt
  have hn := G.n
  have hu := G.hu
  have uc := G.uc
  obtain ⟨uc', ul, ub, ut, uv⟩ := u
  simp only at uc
  subst uc
  simp only [KR] at K
  obtain ⟨k1, k2, k3, k4, k5, k6, k7, k8⟩ := K
  obtain rfl : ul = 6 := k2 (by decide)
  obtain rfl : ub = l + 1 := k4 (by decide)
  obtain rfl : tt = ut := (k5 (by decide)).symm
  obtain rfl : v = uv := (k6 (by decide)).symm
  have hs0 := (G.sm.rdw (a := 0) (by omega)).1
  rw [w0] at hs0
  rw [hy] at hs0
  have E : stp q.r t.fr i P.n P.ws P.g (.take 6 l tt v) = _ := if_pos hy
  rw [E]
  refine (take_6a G.o hl hr1 hr hu hc hs0 (by omega) (by omega)).mono ?_
  rintro e w' ⟨rfl, h⟩
  refine ⟨rfl, _, h, hn, G.sm.stepE G.ht G.call G.hc _ _ _ (ws_set G.sm (w64_id _ (by omega) (by omega))) (wu_set G.sm (uw_of_sm (by omega) (by omega))) (lg_eq G.sm (sw_eq hn (by omega) (by omega))) (G.sm.g) rfl ?_⟩
  exact ⟨cls_no (s := s) G, rfl, k1, fun h => absurd h (by decide), fun h => absurd h (by decide), fun _ => rfl, fun _ => rfl, fun _ => rfl, fun h => absurd h (by decide), fun _ => .inl ⟨rfl, rfl, rfl⟩⟩
theorem cs_take_6b (G : Gv W0 U0 q s W P i t c cl u) {v b tt l : Int} (hk : t.tk = some (.take 6 l tt v)) (K : KR cl t.ak t.av (.take 6 l tt v) u) (hy : ¬ rd P.ws 0 = tt) :
    Calls Tryz.prog 54 #[.pointer (some ⟨q.b, 0, none⟩), .int .i64 (i : Int)] W (Dn W0 U0 q P.n (P.count.stepE i t P.n (stp q.r t.fr i P.n P.ws P.g (.take 6 l tt v)))) := by
  obtain ⟨hl, hr1, hr, hc, hw, h0, w0, h1, hok⟩ := G.all
  have ok := hok _ hk
  simp only [Ok] at ok
  have hlt := G.lt
  have hn := G.n
  have hu := G.hu
  have uc := G.uc
  obtain ⟨uc', ul, ub, ut, uv⟩ := u
  simp only at uc
  subst uc
  simp only [KR] at K
  obtain ⟨k1, k2, k3, k4, k5, k6, k7, k8⟩ := K
  obtain rfl : ul = 6 := k2 (by decide)
  obtain rfl : ub = l + 1 := k4 (by decide)
  obtain rfl : tt = ut := (k5 (by decide)).symm
  obtain rfl : v = uv := (k6 (by decide)).symm
  have hs0 := (G.sm.rdw (a := 0) (by omega)).1
  rw [w0] at hs0
  have E : stp q.r t.fr i P.n P.ws P.g (.take 6 l tt v) = _ := if_neg hy
  rw [E]
  refine (take_6b G.o hl hr1 hr hu hc _ hs0 hy (by omega) (by omega)).mono ?_
  rintro e w' ⟨rfl, h⟩
  refine ⟨rfl, _, h, hn, G.sm.stepE G.ht G.call G.hc _ _ _ (G.sm.ws) (G.sm.wu) (lg_eq G.sm (sw_eq hn (by omega) (by omega))) (G.sm.g) rfl ?_⟩
  exact ⟨cls_pt (s := s) G (congrArg some hn.symm), rfl, k1, fun h => absurd h (by decide), fun h => absurd h (by decide), fun _ => rfl, fun _ => rfl, fun _ => rfl, fun h => absurd h (by decide), fun _ => .inr ⟨rfl, rfl, rfl⟩⟩
theorem cs_take_7 (G : Gv W0 U0 q s W P i t c cl u) {v b tt l : Int} (hk : t.tk = some (.take 7 l tt v)) (K : KR cl t.ak t.av (.take 7 l tt v) u) (hy : u.line = 7 ∧ t.ak = 2 ∧ t.av = v) :
    Calls Tryz.prog 54 #[.pointer (some ⟨q.b, 0, none⟩), .int .i64 (i : Int)] W (Dn W0 U0 q P.n (P.count.stepE i t P.n (stp q.r t.fr i P.n P.ws P.g (.take 7 l tt v)))) := by
  obtain ⟨hl, hr1, hr, hc, hw, h0, w0, h1, hok⟩ := G.all
  have ok := hok _ hk
  simp only [Ok] at ok
  have hlt := G.lt
  have hn := G.n
  have hu := G.hu
  have uc := G.uc
  obtain ⟨uc', ul, ub, ut, uv⟩ := u
  simp only at uc
  subst uc
  simp only [KR] at K
  obtain ⟨k1, k2, k3, k4, k5, k6, k7, k8⟩ := K
  obtain rfl : ub = l + 1 := k4 (by decide)
  obtain rfl : tt = ut := (k5 (by decide)).symm
  obtain rfl : v = uv := (k6 (by decide)).symm
  simp only at hy
  obtain ⟨rfl, ka, kb⟩ := hy
  refine (take_7 G.o hl hr1 hr hu hc (by omega) (by omega)).mono ?_
  rintro e w' ⟨rfl, h⟩
  refine ⟨rfl, _, h, hn, G.sm.stepE G.ht G.call G.hc _ _ _ (ws_set G.sm (w64_nU _ (by omega) (by omega))) (wu_set G.sm (uw_nU_uw _)) (lg_eq G.sm (st_eq hn (tt + 1))) (rfl) rfl ?_⟩
  refine ⟨?_, rfl⟩
  show _ = setE (setP P.cls c none) c P.n t.ak t.av
  rw [ka, kb]
  exact cls_end (s := s) G (by decide)
theorem cs_take_8 (G : Gv W0 U0 q s W P i t c cl u) {v b tt l : Int} (hk : t.tk = some (.take 7 l tt v)) (K : KR cl t.ak t.av (.take 7 l tt v) u) (hy : u.line = 8 ∧ t.ak = 3 ∧ t.av = 0) :
    Calls Tryz.prog 54 #[.pointer (some ⟨q.b, 0, none⟩), .int .i64 (i : Int)] W (Dn W0 U0 q P.n (P.count.stepE i t P.n (stp q.r t.fr i P.n P.ws P.g (.take 7 l tt v)))) := by
  obtain ⟨hl, hr1, hr, hc, hw, h0, w0, h1, hok⟩ := G.all
  have ok := hok _ hk
  simp only [Ok] at ok
  have hlt := G.lt
  have hn := G.n
  have hu := G.hu
  have uc := G.uc
  obtain ⟨uc', ul, ub, ut, uv⟩ := u
  simp only at uc
  subst uc
  simp only [KR] at K
  obtain ⟨k1, k2, k3, k4, k5, k6, k7, k8⟩ := K
  obtain rfl : ub = l + 1 := k4 (by decide)
  obtain rfl : tt = ut := (k5 (by decide)).symm
  obtain rfl : v = uv := (k6 (by decide)).symm
  simp only at hy
  obtain ⟨rfl, ka, kb⟩ := hy
  refine (take_8 G.o hl hr1 hr hu hc (by omega) (by omega)).mono ?_
  rintro e w' ⟨rfl, h⟩
  refine ⟨rfl, _, h, hn, G.sm.stepE G.ht G.call G.hc _ _ _ (ws_set G.sm (w64_nU _ (by omega) (by omega))) (wu_set G.sm (uw_nU_uw _)) (lg_eq G.sm (st_eq hn (tt + 1))) (rfl) rfl ?_⟩
  refine ⟨?_, rfl⟩
  show _ = setE (setP P.cls c none) c P.n t.ak t.av
  rw [ka, kb]
  exact cls_end (s := s) G (by decide)
theorem cs_steal_1 (G : Gv W0 U0 q s W P i t c cl u) {v b tt l : Int} (hk : t.tk = some (.steal 1 tt v)) (K : KR cl t.ak t.av (.steal 1 tt v) u) :
    Calls Tryz.prog 55 #[.pointer (some ⟨q.b, 0, none⟩), .int .i64 (i : Int)] W (Dn W0 U0 q P.n (P.count.stepE i t P.n (stp q.r t.fr i P.n P.ws P.g (.steal 1 tt v)))) := by
  obtain ⟨hl, hr1, hr, hc, hw, h0, w0, h1, hok⟩ := G.all
  have ok := hok _ hk
  simp only [Ok] at ok
  have hlt := G.lt
  have hn := G.n
  have hu := G.hu
  have uc := G.uc
  obtain ⟨uc', ul, ub, ut, uv⟩ := u
  simp only at uc
  subst uc
  simp only [KR] at K
  obtain ⟨k1, k2, k3, k4⟩ := K
  obtain rfl : ul = 1 := k2
  refine (steal_1 G.o hl hr1 hr hu hc _ (G.sm.rdw (a := 0) (by omega)).1).mono ?_
  rintro e w' ⟨rfl, h⟩
  refine ⟨rfl, _, h, hn, G.sm.stepE G.ht G.call G.hc _ _ _ (G.sm.ws) (G.sm.wu) (lg_eq G.sm (ld_eq hn (G.sm.rdw (a := 0) (by omega)).2)) (G.sm.g) rfl ?_⟩
  exact ⟨cls_no (s := s) G, rfl, k1, rfl, fun _ => rfl, fun h => absurd h (by decide)⟩
theorem cs_steal_2a (G : Gv W0 U0 q s W P i t c cl u) {v b tt l : Int} (hk : t.tk = some (.steal 2 tt v)) (K : KR cl t.ak t.av (.steal 2 tt v) u) (hy : wrap64 (rd P.ws 1) - tt ≤ 0) :
    Calls Tryz.prog 55 #[.pointer (some ⟨q.b, 0, none⟩), .int .i64 (i : Int)] W (Dn W0 U0 q P.n (P.count.stepE i t P.n (stp q.r t.fr i P.n P.ws P.g (.steal 2 tt v)))) := by
  obtain ⟨hl, hr1, hr, hc, hw, h0, w0, h1, hok⟩ := G.all
  have ok := hok _ hk
  simp only [Ok] at ok
  have hlt := G.lt
  have hn := G.n
  have hu := G.hu
  have uc := G.uc
  obtain ⟨uc', ul, ub, ut, uv⟩ := u
  simp only at uc
  subst uc
  simp only [KR] at K
  obtain ⟨k1, k2, k3, k4⟩ := K
  obtain rfl : ul = 2 := k2
  obtain rfl : tt = ut := (k3 (by decide)).symm
  have E : stp q.r t.fr i P.n P.ws P.g (.steal 2 tt v) = _ := if_pos hy
  rw [E]
  refine (steal_2a G.o hl hr1 hr hu hc _ (G.sm.rdw (a := 1) (by omega)).1 (by omega) (by omega) hy).mono ?_
  rintro e w' ⟨rfl, h⟩
  refine ⟨rfl, _, h, hn, G.sm.stepE G.ht G.call G.hc _ _ _ (G.sm.ws) (G.sm.wu) (lg_eq G.sm (ld_eq hn (G.sm.rdw (a := 1) (by omega)).2)) (G.sm.g) rfl ?_⟩
  exact ⟨cls_pe (s := s) G (congrArg some hn.symm) (by decide), rfl⟩
theorem cs_steal_2b (G : Gv W0 U0 q s W P i t c cl u) {v b tt l : Int} (hk : t.tk = some (.steal 2 tt v)) (K : KR cl t.ak t.av (.steal 2 tt v) u) (hy : ¬ wrap64 (rd P.ws 1) - tt ≤ 0) :
    Calls Tryz.prog 55 #[.pointer (some ⟨q.b, 0, none⟩), .int .i64 (i : Int)] W (Dn W0 U0 q P.n (P.count.stepE i t P.n (stp q.r t.fr i P.n P.ws P.g (.steal 2 tt v)))) := by
  obtain ⟨hl, hr1, hr, hc, hw, h0, w0, h1, hok⟩ := G.all
  have ok := hok _ hk
  simp only [Ok] at ok
  have hlt := G.lt
  have hn := G.n
  have hu := G.hu
  have uc := G.uc
  obtain ⟨uc', ul, ub, ut, uv⟩ := u
  simp only at uc
  subst uc
  simp only [KR] at K
  obtain ⟨k1, k2, k3, k4⟩ := K
  obtain rfl : ul = 2 := k2
  obtain rfl : tt = ut := (k3 (by decide)).symm
  have E : stp q.r t.fr i P.n P.ws P.g (.steal 2 tt v) = _ := if_neg hy
  rw [E]
  refine (steal_2b G.o hl hr1 hr hu hc _ (G.sm.rdw (a := 1) (by omega)).1 (by omega) (by omega) hy).mono ?_
  rintro e w' ⟨rfl, h⟩
  refine ⟨rfl, _, h, hn, G.sm.stepE G.ht G.call G.hc _ _ _ (G.sm.ws) (G.sm.wu) (lg_eq G.sm (ld_eq hn (G.sm.rdw (a := 1) (by omega)).2)) (G.sm.g) rfl ?_⟩
  exact ⟨cls_no (s := s) G, rfl, k1, rfl, fun _ => rfl, fun h => absurd h (by decide)⟩
theorem cs_steal_3 (G : Gv W0 U0 q s W P i t c cl u) {v b tt l : Int} (hk : t.tk = some (.steal 3 tt v)) (K : KR cl t.ak t.av (.steal 3 tt v) u) :
    Calls Tryz.prog 55 #[.pointer (some ⟨q.b, 0, none⟩), .int .i64 (i : Int)] W (Dn W0 U0 q P.n (P.count.stepE i t P.n (stp q.r t.fr i P.n P.ws P.g (.steal 3 tt v)))) := by
  obtain ⟨hl, hr1, hr, hc, hw, h0, w0, h1, hok⟩ := G.all
  have ok := hok _ hk
  simp only [Ok] at ok
  have hlt := G.lt
  have hn := G.n
  have hu := G.hu
  have uc := G.uc
  obtain ⟨uc', ul, ub, ut, uv⟩ := u
  simp only at uc
  subst uc
  simp only [KR] at K
  obtain ⟨k1, k2, k3, k4⟩ := K
  obtain rfl : ul = 3 := k2
  obtain rfl : tt = ut := (k3 (by decide)).symm
  obtain ⟨k, rfl⟩ := Int.eq_ofNat_of_zero_le (show 0 ≤ tt by omega)
  have hce : ce q.r k < P.ws.length := by rw [hw]; unfold ce; have := Nat.mod_lt k (show 0 < q.r by omega); omega
  refine (steal_3 G.o hl hr1 hr hu hc (by omega) _ (G.sm.rdw (a := ce q.r k) hce).1).mono ?_
  rintro e w' ⟨rfl, h⟩
  refine ⟨rfl, _, h, hn, G.sm.stepE G.ht G.call G.hc _ _ _ (G.sm.ws) (G.sm.wu) (lg_eq G.sm (ld_eq hn (G.sm.rdw (a := ce q.r k) hce).2)) (G.sm.g) rfl ?_⟩
  exact ⟨cls_no (s := s) G, rfl, k1, rfl, fun _ => rfl, fun _ => rfl⟩
theorem cs_steal_4a (G : Gv W0 U0 q s W P i t c cl u) {v b tt l : Int} (hk : t.tk = some (.steal 4 tt v)) (K : KR cl t.ak t.av (.steal 4 tt v) u) (hy : rd P.ws 0 = tt) (hd : s.dn < 0) :
    Calls Tryz.prog 55 #[.pointer (some ⟨q.b, 0, none⟩), .int .i64 (i : Int)] W (Dn W0 U0 q P.n (P.count.stepE i t P.n (stp q.r t.fr i P.n P.ws P.g (.steal 4 tt v)))) := by
  obtain ⟨hl, hr1, hr, hc, hw, h0, w0, h1, hok⟩ := G.all
  have ok := hok _ hk
  simp only [Ok] at ok
  have hlt := G.lt
  have hn := G.n
  have hu := G.hu
  have uc := G.uc
  obtain ⟨uc', ul, ub, ut, uv⟩ := u
  simp only at uc
  subst uc
  simp only [KR] at K
  obtain ⟨k1, k2, k3, k4⟩ := K
  obtain rfl : ul = 4 := k2
  obtain rfl : tt = ut := (k3 (by decide)).symm
  obtain rfl : v = uv := (k4 (by trivial)).symm
  have hs0 := (G.sm.rdw (a := 0) (by omega)).1
  rw [w0] at hs0
  rw [hy] at hs0
  have E : stp q.r t.fr i P.n P.ws P.g (.steal 4 tt v) = _ := if_pos hy
  rw [E]
  refine (steal_4a G.o hl hr1 hr hu hc hs0 (by omega) hd).mono ?_
  rintro e w' ⟨rfl, h⟩
  refine ⟨rfl, _, h, hn, G.sm.stepE G.ht G.call G.hc _ _ _ (ws_set G.sm (w64_id _ (by omega) (by omega))) (wu_set G.sm (uw_of_sm (by omega) (by omega))) (lg_eq G.sm (sw_eq hn (by omega) (by omega))) (G.sm.g) rfl ?_⟩
  refine ⟨cls_pe (s := s) G (m := s.n) ?_ (by decide), rfl⟩
  show some _ = some s.n
  have hg := G.sm.g
  cases hgg : P.g with
  | none => simp only; rw [hn]
  | some mk => rw [hgg] at hg; obtain ⟨m, k⟩ := mk; obtain ⟨g1, g2, g3⟩ := hg; omega
theorem cs_steal_4b (G : Gv W0 U0 q s W P i t c cl u) {v b tt l : Int} (hk : t.tk = some (.steal 4 tt v)) (K : KR cl t.ak t.av (.steal 4 tt v) u) (hy : rd P.ws 0 = tt) (hd : 0 ≤ s.dn) (he : s.la = tt) :
    Calls Tryz.prog 55 #[.pointer (some ⟨q.b, 0, none⟩), .int .i64 (i : Int)] W (Dn W0 U0 q P.n (P.count.stepE i t P.n (stp q.r t.fr i P.n P.ws P.g (.steal 4 tt v)))) := by
  obtain ⟨hl, hr1, hr, hc, hw, h0, w0, h1, hok⟩ := G.all
  have ok := hok _ hk
  simp only [Ok] at ok
  have hlt := G.lt
  have hn := G.n
  have hu := G.hu
  have uc := G.uc
  obtain ⟨uc', ul, ub, ut, uv⟩ := u
  simp only at uc
  subst uc
  simp only [KR] at K
  obtain ⟨k1, k2, k3, k4⟩ := K
  obtain rfl : ul = 4 := k2
  obtain rfl : tt = ut := (k3 (by decide)).symm
  obtain rfl : v = uv := (k4 (by trivial)).symm
  have hs0 := (G.sm.rdw (a := 0) (by omega)).1
  rw [w0] at hs0
  rw [hy] at hs0
  have E : stp q.r t.fr i P.n P.ws P.g (.steal 4 tt v) = _ := if_pos hy
  rw [E]
  refine (steal_4b G.o hl hr1 hr hu hc hs0 (by omega) hd he).mono ?_
  rintro e w' ⟨rfl, h⟩
  refine ⟨rfl, _, h, hn, G.sm.stepE G.ht G.call G.hc _ _ _ (ws_set G.sm (w64_id _ (by omega) (by omega))) (wu_set G.sm (uw_of_sm (by omega) (by omega))) (lg_eq G.sm (sw_eq hn (by omega) (by omega))) (G.sm.g) rfl ?_⟩
  refine ⟨cls_pe (s := s) G (m := s.dn) ?_ (by decide), rfl⟩
  show some _ = some s.dn
  have hg := G.sm.g
  cases hgg : P.g with
  | none => rw [hgg] at hg; have hg2 : s.dn = -1 := hg; omega
  | some mk => rw [hgg] at hg; obtain ⟨m, k⟩ := mk; obtain ⟨g1, g2, g3⟩ := hg; simp only; rw [if_pos (by rw [← g2]; exact he), g1]
theorem cs_steal_4d (G : Gv W0 U0 q s W P i t c cl u) {v b tt l : Int} (hk : t.tk = some (.steal 4 tt v)) (K : KR cl t.ak t.av (.steal 4 tt v) u) (hy : rd P.ws 0 = tt) (hd : 0 ≤ s.dn) (he : s.la ≠ tt) :
    Calls Tryz.prog 55 #[.pointer (some ⟨q.b, 0, none⟩), .int .i64 (i : Int)] W (Dn W0 U0 q P.n (P.count.stepE i t P.n (stp q.r t.fr i P.n P.ws P.g (.steal 4 tt v)))) := by
  obtain ⟨hl, hr1, hr, hc, hw, h0, w0, h1, hok⟩ := G.all
  have ok := hok _ hk
  simp only [Ok] at ok
  have hlt := G.lt
  have hn := G.n
  have hu := G.hu
  have uc := G.uc
  obtain ⟨uc', ul, ub, ut, uv⟩ := u
  simp only at uc
  subst uc
  simp only [KR] at K
  obtain ⟨k1, k2, k3, k4⟩ := K
  obtain rfl : ul = 4 := k2
  obtain rfl : tt = ut := (k3 (by decide)).symm
  obtain rfl : v = uv := (k4 (by trivial)).symm
  have hs0 := (G.sm.rdw (a := 0) (by omega)).1
  rw [w0] at hs0
  rw [hy] at hs0
  have E : stp q.r t.fr i P.n P.ws P.g (.steal 4 tt v) = _ := if_pos hy
  rw [E]
  refine (steal_4d G.o hl hr1 hr hu hc hs0 (by omega) hd he).mono ?_
  rintro e w' ⟨rfl, h⟩
  refine ⟨rfl, _, h, hn, G.sm.stepE G.ht G.call G.hc _ _ _ (ws_set G.sm (w64_id _ (by omega) (by omega))) (wu_set G.sm (uw_of_sm (by omega) (by omega))) (lg_eq G.sm (sw_eq hn (by omega) (by omega))) (G.sm.g) rfl ?_⟩
  refine ⟨cls_pe (s := s) G (m := s.n) ?_ (by decide), rfl⟩
  show some _ = some s.n
  have hg := G.sm.g
  cases hgg : P.g with
  | none => simp only; rw [hn]
  | some mk => rw [hgg] at hg; obtain ⟨m, k⟩ := mk; obtain ⟨g1, g2, g3⟩ := hg; simp only; rw [if_neg (by rw [← g2]; exact he), hn]
theorem cs_steal_4c (G : Gv W0 U0 q s W P i t c cl u) {v b tt l : Int} (hk : t.tk = some (.steal 4 tt v)) (K : KR cl t.ak t.av (.steal 4 tt v) u) (hy : ¬ rd P.ws 0 = tt) :
    Calls Tryz.prog 55 #[.pointer (some ⟨q.b, 0, none⟩), .int .i64 (i : Int)] W (Dn W0 U0 q P.n (P.count.stepE i t P.n (stp q.r t.fr i P.n P.ws P.g (.steal 4 tt v)))) := by
  obtain ⟨hl, hr1, hr, hc, hw, h0, w0, h1, hok⟩ := G.all
  have ok := hok _ hk
  simp only [Ok] at ok
  have hlt := G.lt
  have hn := G.n
  have hu := G.hu
  have uc := G.uc
  obtain ⟨uc', ul, ub, ut, uv⟩ := u
  simp only at uc
  subst uc
  simp only [KR] at K
  obtain ⟨k1, k2, k3, k4⟩ := K
  obtain rfl : ul = 4 := k2
  obtain rfl : tt = ut := (k3 (by decide)).symm
  obtain rfl : v = uv := (k4 (by trivial)).symm
  have hs0 := (G.sm.rdw (a := 0) (by omega)).1
  rw [w0] at hs0
  have E : stp q.r t.fr i P.n P.ws P.g (.steal 4 tt v) = _ := if_neg hy
  rw [E]
  refine (steal_4c G.o hl hr1 hr hu hc _ hs0 hy (by omega)).mono ?_
  rintro e w' ⟨rfl, h⟩
  refine ⟨rfl, _, h, hn, G.sm.stepE G.ht G.call G.hc _ _ _ (G.sm.ws) (G.sm.wu) (lg_eq G.sm (sw_eq hn (by omega) (by omega))) (G.sm.g) rfl ?_⟩
  exact ⟨cls_no (s := s) G, rfl, k1, rfl, fun h => absurd h (by decide), fun h => absurd h (by decide)⟩
end
end Go.Proofs.YtnapnhmmopajfaaGreat.Rd
/-
  THE DOCUMENT's DEQUE: a step of a thread that is in a call (made by mk_rdstepr.py).
-/
namespace Go.Proofs.YtnapnhmmopajfaaGreat.Rd
open Go.RowKit Mr Me Ma Gm Dm
set_option linter.unusedVariables false
set_option linter.unusedSimpArgs false
section
variable {W0 W : World} {U0 : Nat → Prop} {q : Rc} {s : Rs} {P : Pg Dt Lw} {i : Nat} {t : Pt Dt} {c : Nat} {cl : Cl} {u : Rt}
set_option maxRecDepth 100000 in
set_option maxHeartbeats 1000000 in
theorem st_push (G : Gv W0 U0 q s W P i t c cl u) (hop : cl.op = 90) {Q : Pg Dt Lw} {m : Nat} (C : ∀ n, Calls Tryz.prog 53 #[.pointer (some ⟨q.b, 0, none⟩), .int .i64 (i : Int)] (W.drewN n) (Dn W0 U0 q m Q)) :
    Calls Tryz.prog 40 #[.pointer (some ⟨q.b, 0, none⟩), .int .i64 (i : Int)] W (Dn W0 U0 q m Q) := by
  have hc : s.cls[c]? = some cl := by rw [G.sm.cls]; exact G.hc
  have hin : i < q.nt := by obtain ⟨_, _, _, hR, _⟩ := G.o; rw [← hR.tn]; exact (List.getElem?_eq_some_iff.1 G.hu).1
  have hcl : c < s.cls.length := (List.getElem?_eq_some_iff.1 hc).1
  obtain ⟨c0, c1, c2, c3, c6, c7, c8, fb, ft, fw⟩ := G.o.b0
  obtain ⟨t0, _⟩ := G.o.ts G.hu
  obtain ⟨gc, cc, c4, hcl9, _⟩ := G.o.cl hc
  have k1 := hcl9 1 _ rfl
  rw [hop] at k1
  rw [G.uc] at t0
  clear hcl9
  generalize hN : s.cls.length = N at *
  clear hN
  replace G := Mr.hid G
  replace C := Mr.hid C
  clear hc
  go_enter Tryz.func40, Tryz.ntmps40
  go_wp2
  go_quiet (fail)
  go_wp2_with (go_at_call 53; refine (C.out _).mono ?_; clear C; rintro e w1 ⟨rfl, hq⟩; replace hq := Mr.hid hq)
  go_end0
  exact ⟨rfl, hq.out⟩
set_option maxRecDepth 100000 in
set_option maxHeartbeats 1000000 in
theorem st_take (G : Gv W0 U0 q s W P i t c cl u) (hop : cl.op = 91) {Q : Pg Dt Lw} {m : Nat} (C : ∀ n, Calls Tryz.prog 54 #[.pointer (some ⟨q.b, 0, none⟩), .int .i64 (i : Int)] (W.drewN n) (Dn W0 U0 q m Q)) :
    Calls Tryz.prog 40 #[.pointer (some ⟨q.b, 0, none⟩), .int .i64 (i : Int)] W (Dn W0 U0 q m Q) := by
  have hc : s.cls[c]? = some cl := by rw [G.sm.cls]; exact G.hc
  have hin : i < q.nt := by obtain ⟨_, _, _, hR, _⟩ := G.o; rw [← hR.tn]; exact (List.getElem?_eq_some_iff.1 G.hu).1
  have hcl : c < s.cls.length := (List.getElem?_eq_some_iff.1 hc).1
  obtain ⟨c0, c1, c2, c3, c6, c7, c8, fb, ft, fw⟩ := G.o.b0
  obtain ⟨t0, _⟩ := G.o.ts G.hu
  obtain ⟨gc, cc, c4, hcl9, _⟩ := G.o.cl hc
  have k1 := hcl9 1 _ rfl
  rw [hop] at k1
  rw [G.uc] at t0
  clear hcl9
  generalize hN : s.cls.length = N at *
  clear hN
  replace G := Mr.hid G
  replace C := Mr.hid C
  clear hc
  go_enter Tryz.func40, Tryz.ntmps40
  go_wp2
  go_quiet (fail)
  go_wp2_with (go_at_call 54; refine (C.out _).mono ?_; clear C; rintro e w1 ⟨rfl, hq⟩; replace hq := Mr.hid hq)
  go_end0
  exact ⟨rfl, hq.out⟩
set_option maxRecDepth 100000 in
set_option maxHeartbeats 1000000 in
theorem st_steal (G : Gv W0 U0 q s W P i t c cl u) (hop : cl.op = 92) {Q : Pg Dt Lw} {m : Nat} (C : ∀ n, Calls Tryz.prog 55 #[.pointer (some ⟨q.b, 0, none⟩), .int .i64 (i : Int)] (W.drewN n) (Dn W0 U0 q m Q)) :
    Calls Tryz.prog 40 #[.pointer (some ⟨q.b, 0, none⟩), .int .i64 (i : Int)] W (Dn W0 U0 q m Q) := by
  have hc : s.cls[c]? = some cl := by rw [G.sm.cls]; exact G.hc
  have hin : i < q.nt := by obtain ⟨_, _, _, hR, _⟩ := G.o; rw [← hR.tn]; exact (List.getElem?_eq_some_iff.1 G.hu).1
  have hcl : c < s.cls.length := (List.getElem?_eq_some_iff.1 hc).1
  obtain ⟨c0, c1, c2, c3, c6, c7, c8, fb, ft, fw⟩ := G.o.b0
  obtain ⟨t0, _⟩ := G.o.ts G.hu
  obtain ⟨gc, cc, c4, hcl9, _⟩ := G.o.cl hc
  have k1 := hcl9 1 _ rfl
  rw [hop] at k1
  rw [G.uc] at t0
  clear hcl9
  generalize hN : s.cls.length = N at *
  clear hN
  replace G := Mr.hid G
  replace C := Mr.hid C
  clear hc
  go_enter Tryz.func40, Tryz.ntmps40
  go_wp2
  go_quiet (fail)
  go_wp2_with (go_at_call 55; refine (C.out _).mono ?_; clear C; rintro e w1 ⟨rfl, hq⟩; replace hq := Mr.hid hq)
  go_end0
  exact ⟨rfl, hq.out⟩
set_option maxHeartbeats 1000000 in
theorem step_r (G : Gv W0 U0 q s W P i t c cl u) {k : Dt} (hk : t.tk = some k) (K : KR cl t.ak t.av k u) :
    Calls Tryz.prog 40 #[.pointer (some ⟨q.b, 0, none⟩), .int .i64 (i : Int)] W (Dn W0 U0 q P.n (P.count.stepE i t P.n (stp q.r t.fr i P.n P.ws P.g k))) := by
  obtain ⟨_, _, _, _, _, _, _, _, hok⟩ := G.all
  have ok := hok _ hk
  cases k with
  | push nx v b =>
    simp only [Ok] at ok
    refine st_push G K.1 (fun n => ?_)
    have G' := G.drew n
    obtain rfl | rfl | rfl | rfl : nx = 1 ∨ nx = 2 ∨ nx = 3 ∨ nx = 4 := by omega
    · exact cs_push_1 (tt := 0) (l := 0) G' hk K
    · by_cases hy : (q.r : Int) ≤ b - wrap64 (rd P.ws 0)
      · exact cs_push_2a (tt := 0) (l := 0) G' hk K hy
      · exact cs_push_2b (tt := 0) (l := 0) G' hk K hy
    · exact cs_push_3 (tt := 0) (l := 0) G' hk K
    · exact cs_push_4 (tt := 0) (l := 0) G' hk K
  | take nx l tt v =>
    simp only [Ok] at ok
    refine st_take G K.1 (fun n => ?_)
    have G' := G.drew n
    obtain rfl | rfl | rfl | rfl | rfl | rfl | rfl : nx = 1 ∨ nx = 2 ∨ nx = 3 ∨ nx = 4 ∨ nx = 5 ∨ nx = 6 ∨ nx = 7 := by omega
    · exact cs_take_1 (b := 0) G' hk K
    · exact cs_take_2 (b := 0) G' hk K
    · by_cases hy : l < wrap64 (rd P.ws 0)
      · exact cs_take_3a (b := 0) G' hk K hy
      · exact cs_take_3b (b := 0) G' hk K hy
    · exact cs_take_4 (b := 0) G' hk K
    · by_cases hy : tt < l
      · exact cs_take_5a (b := 0) G' hk K hy
      · exact cs_take_5b (b := 0) G' hk K hy
    · by_cases hy : rd P.ws 0 = tt
      · exact cs_take_6a (b := 0) G' hk K hy
      · exact cs_take_6b (b := 0) G' hk K hy
    · rcases K.2.2.2.2.2.2.2 rfl with hy | hy
      · exact cs_take_7 (b := 0) G' hk K hy
      · exact cs_take_8 (b := 0) G' hk K hy
  | steal nx tt v =>
    simp only [Ok] at ok
    refine st_steal G K.1 (fun n => ?_)
    have G' := G.drew n
    obtain rfl | rfl | rfl | rfl : nx = 1 ∨ nx = 2 ∨ nx = 3 ∨ nx = 4 := by omega
    · exact cs_steal_1 (b := 0) (l := 0) G' hk K
    · by_cases hy : wrap64 (rd P.ws 1) - tt ≤ 0
      · exact cs_steal_2a (b := 0) (l := 0) G' hk K hy
      · exact cs_steal_2b (b := 0) (l := 0) G' hk K hy
    · exact cs_steal_3 (b := 0) (l := 0) G' hk K
    · by_cases hy : rd P.ws 0 = tt
      · by_cases hd : s.dn < 0
        · exact cs_steal_4a (b := 0) (l := 0) G' hk K hy hd
        · by_cases he : s.la = tt
          · exact cs_steal_4b (b := 0) (l := 0) G' hk K hy (by omega) he
          · exact cs_steal_4d (b := 0) (l := 0) G' hk K hy (by omega) he
      · exact cs_steal_4c (b := 0) (l := 0) G' hk K hy
end
end Go.Proofs.YtnapnhmmopajfaaGreat.Rd
