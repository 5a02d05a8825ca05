import Derived.Test.YtnapnhmmopajfaaGreatJ27
import Derived.Test.YtnapnhmmopajfaaGreatJ06
/-
  deque.Play, pure: a script's moves one after another.
-/
namespace Go.Proofs.YtnapnhmmopajfaaGreat.Dm
open Go.RowKit Go.Shelf Mr Me Ma Gm Dq
set_option linter.unusedVariables false
/-- A script. -/
def Pl (r : Nat) (P : Pg Dt Lw) (ms : List Mv) : Pg Dt Lw := ms.foldl (fun P m => (P.move (dqY r) m.th m.op m.arg m.data).1) P
def P0 (nt r : Nat) : Pg Dt Lw := Pg.new nt (List.replicate (2 + r) 0) none
theorem pl_snoc (r : Nat) (P : Pg Dt Lw) (ms : List Mv) (i : Nat) (hi : i < ms.length) : Pl r P (ms.take (i + 1)) = ((Pl r P (ms.take i)).move (dqY r) (ms[i]?.getD noMv).th (ms[i]?.getD noMv).op (ms[i]?.getD noMv).arg (ms[i]?.getD noMv).data).1 := by
  unfold Pl
  rw [List.take_add_one, List.foldl_append]
  simp [hi]
theorem mv_bd {r : Nat} {P : Pg Dt Lw} (h : Bd P) (th op arg data : Int) : Bd (P.move (dqY r) th op arg data).1 := h.move (fun fr i now ws g k => stp_la r fr i now ws g k) th op arg data
theorem pl_inv {r : Nat} (ms : List Mv) : ∀ {P : Pg Dt Lw}, Iv r P → Bd P → Iv r (Pl r P ms) ∧ Bd (Pl r P ms) := by
  induction ms with
  | nil => exact fun h1 h2 => ⟨h1, h2⟩
  | cons x ms ih => exact fun h1 h2 => ih (h1.move x.th x.op x.arg x.data) (mv_bd h2 _ _ _ _)
theorem mv_n {r : Nat} (P : Pg Dt Lw) (th op arg data : Int) : (P.move (dqY r) th op arg data).1.n ≤ P.n + 1 := by
  by_cases h : 65536 ≤ P.n
  · unfold Pg.move; rw [if_pos h]; exact Nat.le_succ _
  · rw [move_n P (by omega)]; exact Nat.le_refl _
theorem pl_n {r : Nat} (ms : List Mv) : ∀ (P : Pg Dt Lw), (Pl r P ms).n ≤ P.n + ms.length := by
  induction ms with
  | nil => exact fun P => Nat.le_refl _
  | cons x ms ih =>
      intro P
      have h1 := ih (P.move (dqY r) x.th x.op x.arg x.data).1
      have h2 := mv_n (r := r) P x.th x.op x.arg x.data
      show (Pl r (P.move (dqY r) x.th x.op x.arg x.data).1 ms).n ≤ P.n + (ms.length + 1)
      omega
theorem pl_pts {r : Nat} (ms : List Mv) : ∀ (P : Pg Dt Lw), (Pl r P ms).pts.length = P.pts.length := by
  induction ms with
  | nil => exact fun P => rfl
  | cons x ms ih => exact fun P => (ih _).trans (move_pts P x.th x.op x.arg x.data)
theorem p0_inv {nt r : Nat} (h1 : 1 ≤ r) (h2 : r ≤ 256) : Iv r (P0 nt r) ∧ Bd (P0 nt r) := ⟨iv_new nt h1 h2, bd_new _ _ _⟩
def rnO : Obj := .cells #[.slice none 0 0, .slice none 0 0, .slice none 0 0, .slice none 0 0] 33 (0, 0)
/-- Play's two boxes. -/
structure Bp (w : World) (nt r : Nat) (W : World) : Prop where
  c : W.heap[w.heap.size]? = some (dBox nt r)
  r : W.heap[w.heap.size + 1]? = some rnO
  b : Below w.heap.size w W
theorem Bp.below {w W W' : World} {nt r : Nat} (h : Bp w nt r W) (hB : Below (w.heap.size + 1 + 1) W W') : Bp w nt r W' :=
  ⟨(hB.block _ (by omega)).trans h.c, (hB.block _ (by omega)).trans h.r, h.b.trans (hB.mono (by omega))⟩
theorem Bp.lt {w W : World} {nt r : Nat} (h : Bp w nt r W) : w.heap.size + 1 + 1 ≤ W.heap.size := by
  have := (Array.getElem?_eq_some_iff.1 h.r).1
  omega
theorem Bp.run {w W : World} {nt r : Nat} (h : Bp w nt r W) : (∀ j, j < 4 → W.cell? ⟨w.heap.size + 1, j, none⟩ = some (.slice none 0 0)) ∧ ∀ j, W.frozen? ⟨w.heap.size + 1, j, none⟩ = false := by
  refine ⟨fun j hj => ?_, fun j => froz_at h.r j⟩
  rw [cell_at h.r j]
  have hj' : j = 0 ∨ j = 1 ∨ j = 2 ∨ j = 3 := by omega
  rcases hj' with rfl | rfl | rfl | rfl <;> rfl
/-- What a move leaves, from a relation that frames it. -/
theorem OutG.next {w W W' : World} {nt r bc cs c1 c2 km N : Nat} {U K : Nat → Prop} {q : Ph} {P' : Pg Dt Lw} (hU : ∀ k, U k → N ≤ k) (hN : N ≤ W.heap.size) (hO : OutG (dqL r bc cs c1 c2) W U K q km P' W') : ∃ U', RG (dqL r bc cs c1 c2) W' U' K q km P' ∧ (∀ k, U' k → N ≤ k) ∧ Below N W W' := by
  obtain ⟨U', g1, g2, g3, g4⟩ := hO
  exact ⟨U', g1, fun k hk => (g3 k hk).elim (hU k) (Nat.le_trans hN), g4.below hU hN⟩
end Go.Proofs.YtnapnhmmopajfaaGreat.Dm
/-
  THE DOCUMENT's DEQUE: the program's pure machine and the document's state, side by side.
-/
namespace Go.Proofs.YtnapnhmmopajfaaGreat.Rd
open Go.RowKit Mr Me Ma Gm Dm
set_option linter.unusedVariables false
set_option linter.unusedSimpArgs false
def Wd (x : Int) : Prop := -9223372036854775808 ≤ x ∧ x ≤ 9223372036854775807
def Uw (x : Int) : Prop := 0 ≤ x ∧ x ≤ 18446744073709551615
theorem uw_wrap {x : Int} (h : Uw x) : uw (wrap64 x) = x := by
  obtain ⟨h1, h2⟩ := h
  unfold uw
  show (wrap64 x) % 18446744073709551616 = x
  unfold wrap64; omega
theorem wrap_nU {x : Int} (h : Wd x) : wrap64 (nU x) = x := by
  obtain ⟨h1, h2⟩ := h
  unfold nU
  show wrap64 (x % 18446744073709551616) = x
  unfold wrap64; omega
theorem uw_nU (x : Int) : uw x = nU x := rfl
theorem uw_nU_uw (x : Int) : Uw (nU x) := by
  show 0 ≤ x % 18446744073709551616 ∧ x % 18446744073709551616 ≤ _
  omega
theorem uw_sm {x : Int} (h1 : 0 ≤ x) (h2 : x ≤ 1000000) : uw x = x := by
  show x % 18446744073709551616 = x
  omega
theorem uw_of_sm {x : Int} (h1 : 0 ≤ x) (h2 : x ≤ 1000000) : Uw x := ⟨h1, by omega⟩
def KR (cl : Cl) (ak av : Int) : Dt → Rt → Prop
  | .push nx v b, u => cl.op = 90 ∧ cl.arg = v ∧ Wd v ∧ u.line = nx ∧ (2 ≤ nx → u.b = b)
  | .take nx l tt v, u => cl.op = 91 ∧ (nx ≤ 6 → u.line = nx) ∧ (nx = 1 → u.b = 0) ∧ (2 ≤ nx → u.b = l + 1) ∧ (4 ≤ nx → u.t = tt) ∧ (6 ≤ nx → u.v = v) ∧ (nx = 4 → ak = 3 ∧ av = 0) ∧ (nx = 7 → (u.line = 7 ∧ ak = 2 ∧ av = v) ∨ (u.line = 8 ∧ ak = 3 ∧ av = 0))
  | .steal nx tt v, u => cl.op = 92 ∧ u.line = nx ∧ (2 ≤ nx → u.t = tt) ∧ (nx = 4 → u.v = v)
theorem KR.cl {cl cl' : Cl} {ak av : Int} {k : Dt} {u : Rt} (h : KR cl ak av k u) (h1 : cl'.op = cl.op) (h2 : cl'.arg = cl.arg) : KR cl' ak av k u := by
  cases k <;> simp only [KR] at h ⊢ <;> rw [h1] <;> first | exact h | (rw [h2]; exact h)
def TR (cls : List Cl) (t : Pt Dt) (u : Rt) : Prop :=
  match t.tk with
  | none => u.call = -1
  | some k => ∃ (c : Nat) (cl : Cl), t.call = c ∧ u.call = c ∧ cls[c]? = some cl ∧ KR cl t.ak t.av k u
def GR (g : Lw) (dn la : Int) : Prop :=
  match g with
  | none => dn = -1
  | some (m, k) => dn = m ∧ la = k ∧ 0 ≤ m
structure Sm (P : Pg Dt Lw) (s : Rs) : Prop where
  ws : s.ws = P.ws.map wrap64
  wu : ∀ (a : Nat) (x : Int), P.ws[a]? = some x → Uw x
  cls : s.cls = P.cls
  lg : s.lg = P.lg
  g : GR P.g s.dn s.la
  ln : s.ths.length = P.pts.length
  th : ∀ (i : Nat) (t : Pt Dt), P.pts[i]? = some t → ∃ u, s.ths[i]? = some u ∧ TR P.cls t u
theorem Sm.count {P : Pg Dt Lw} {s : Rs} (h : Sm P s) : Sm P.count s := ⟨h.ws, h.wu, h.cls, h.lg, h.g, h.ln, h.th⟩
theorem Sm.setn {P : Pg Dt Lw} {s : Rs} (h : Sm P s) (x : Int) : Sm P { s with n := x } := ⟨h.ws, h.wu, h.cls, h.lg, h.g, h.ln, h.th⟩
theorem Sm.rdw {P : Pg Dt Lw} {s : Rs} (h : Sm P s) {a : Nat} (ha : a < P.ws.length) : s.ws[a]? = some (wrap64 (Dm.rd P.ws a)) ∧ Uw (Dm.rd P.ws a) := by
  have h1 : P.ws[a]? = some P.ws[a] := List.getElem?_eq_getElem ha
  have h2 : Dm.rd P.ws a = P.ws[a] := by unfold Dm.rd; rw [h1]; rfl
  rw [h.ws, h2]
  exact ⟨by simp [h1], h.wu a _ h1⟩
/-- Calls that keep what was asked. -/
def Kp (l l' : List Cl) : Prop := ∀ (c : Nat) (cl : Cl), l[c]? = some cl → ∃ cl', l'[c]? = some cl' ∧ cl'.op = cl.op ∧ cl'.arg = cl.arg
theorem Kp.set {l : List Cl} {c : Nat} {cl cl' : Cl} (hc : l[c]? = some cl) (h1 : cl'.op = cl.op) (h2 : cl'.arg = cl.arg) : Kp l (l.set c cl') := by
  intro d x hx
  rw [List.getElem?_set]
  by_cases e : c = d
  · subst e
    rw [hc] at hx
    obtain rfl := Option.some.inj hx
    have := (List.getElem?_eq_some_iff.1 hc).1
    exact ⟨cl', by simp [this], h1, h2⟩
  · rw [if_neg e]; exact ⟨x, hx, rfl, rfl⟩
theorem Kp.refl (l : List Cl) : Kp l l := fun c cl h => ⟨cl, h, rfl, rfl⟩
theorem TR.kp {l l' : List Cl} (hk : Kp l l') {t : Pt Dt} {u : Rt} (h : TR l t u) : TR l' t u := by
  unfold TR at h ⊢
  split
  · rename_i e; rw [e] at h; exact h
  · rename_i k e
    rw [e] at h
    obtain ⟨c, cl, h1, h2, h3, h4⟩ := h
    obtain ⟨cl', g1, g2, g3⟩ := hk c cl h3
    exact ⟨c, cl', h1, h2, g1, h4.cl g2 g3⟩
theorem setP_at {cls : List Cl} {c : Nat} {cl : Cl} (hc : cls[c]? = some cl) (m : Int) : setP cls c (some m) = cls.set c { cl with pt := m } := by unfold setP; rw [hc]
theorem setP_no (cls : List Cl) (c : Nat) : setP cls c none = cls := rfl
theorem setE_at {cls : List Cl} {c : Nat} {cl : Cl} (hc : cls[c]? = some cl) (now ak av : Int) (h : ak ≠ 0) : setE cls c now ak av = cls.set c { cl with fin := now, ak := ak, av := av } := by
  unfold setE endA
  rw [hc]
  simp [h]
theorem setP_ex {cls : List Cl} {c : Nat} {cl : Cl} (hc : cls[c]? = some cl) (p : Option Int) : ∃ cl1, (setP cls c p)[c]? = some cl1 ∧ cl1.op = cl.op ∧ cl1.arg = cl.arg ∧ Kp cls (setP cls c p) := by
  cases p with
  | none => exact ⟨cl, hc, rfl, rfl, Kp.refl _⟩
  | some m =>
    rw [setP_at hc]
    exact ⟨_, set_at _ hc, rfl, rfl, Kp.set hc rfl rfl⟩
/-- A step, from what it makes. -/
theorem Sm.stepE {P : Pg Dt Lw} {s s' : Rs} (h : Sm P s) {i : Nat} {t : Pt Dt} (ht : P.pts[i]? = some t) {c : Nat} {cl : Cl} (hcall : t.call = c) (hc : P.cls[c]? = some cl) (now : Int) (e : Df) (u : Rt)
    (h1 : s'.ws = e.ws.map wrap64) (h2 : ∀ (a : Nat) (x : Int), e.ws[a]? = some x → Uw x) (h3 : s'.lg = P.lg ++ e.la) (h4 : GR e.g s'.dn s'.la) (h5 : s'.ths = s.ths.set i u)
    (h6 : match e.tk with
      | some k => s'.cls = setP P.cls c e.pt ∧ u.call = c ∧ KR cl (told t.ak t.av e.tl).1 (told t.ak t.av e.tl).2 k u
      | none => s'.cls = setE (setP P.cls c e.pt) c now (told t.ak t.av e.tl).1 (told t.ak t.av e.tl).2 ∧ u.call = -1) : Sm (P.count.stepE i t now e) s' := by
  have hcc : t.call.toNat = c := by rw [hcall]; exact Int.toNat_natCast c
  have hit : i < P.pts.length := (List.getElem?_eq_some_iff.1 ht).1
  obtain ⟨cl1, q1, q2, q3, q4⟩ := setP_ex hc e.pt
  cases he : e.tk with
  | some k =>
    rw [he] at h6
    obtain ⟨a1, a2, a3⟩ := h6
    have E : P.count.stepE i t now e = { P.count with pts := P.pts.set i ⟨some k, false, t.call, (told t.ak t.av e.tl).1, (told t.ak t.av e.tl).2⟩, g := e.g, cls := setP P.cls t.call.toNat e.pt, ws := e.ws, lg := P.lg ++ e.la } := by
      simp only [Pg.stepE, he]; rfl
    rw [E]
    refine ⟨h1, h2, by rw [a1, hcc], h3, h4, by rw [h5]; simpa using h.ln, fun j t' hj => ?_⟩
    show ∃ u, s'.ths[j]? = some u ∧ TR (setP P.cls t.call.toNat e.pt) t' u
    rw [hcc, h5]
    have hj' : (P.pts.set i ⟨some k, false, t.call, (told t.ak t.av e.tl).1, (told t.ak t.av e.tl).2⟩)[j]? = some t' := hj
    rcases pts_set hj' with ⟨rfl, rfl⟩ | ⟨hne, hj2⟩
    · exact ⟨u, by simp [h.ln, hit], c, cl1, hcall, a2, q1, a3.cl q2 q3⟩
    · obtain ⟨u', b1, b2⟩ := h.th j t' hj2
      exact ⟨u', by rw [List.getElem?_set_ne (fun e => hne e.symm)]; exact b1, b2.kp q4⟩
  | none =>
    rw [he] at h6
    obtain ⟨a1, a2⟩ := h6
    have E : P.count.stepE i t now e = { P.count with pts := P.pts.set i ⟨none, false, t.call, 0, 0⟩, g := e.g, cls := setE (setP P.cls t.call.toNat e.pt) t.call.toNat now (told t.ak t.av e.tl).1 (told t.ak t.av e.tl).2, ws := e.ws, lg := P.lg ++ e.la } := by
      simp only [Pg.stepE, he]; rfl
    rw [E]
    have hkp : Kp P.cls (setE (setP P.cls c e.pt) c now (told t.ak t.av e.tl).1 (told t.ak t.av e.tl).2) := by
      have hs : setE (setP P.cls c e.pt) c now (told t.ak t.av e.tl).1 (told t.ak t.av e.tl).2 = (setP P.cls c e.pt).set c { cl1 with fin := now, ak := (endA (told t.ak t.av e.tl).1 (told t.ak t.av e.tl).2).1, av := (endA (told t.ak t.av e.tl).1 (told t.ak t.av e.tl).2).2 } := by unfold setE; rw [q1]
      rw [hs]
      intro d x hx
      obtain ⟨y, y1, y2, y3⟩ := q4 d x hx
      obtain ⟨z, z1, z2, z3⟩ := Kp.set (cl' := { cl1 with fin := now, ak := (endA (told t.ak t.av e.tl).1 (told t.ak t.av e.tl).2).1, av := (endA (told t.ak t.av e.tl).1 (told t.ak t.av e.tl).2).2 }) q1 rfl rfl d y y1
      exact ⟨z, z1, z2.trans y2, z3.trans y3⟩
    refine ⟨h1, h2, by rw [a1, hcc], h3, h4, by rw [h5]; simpa using h.ln, fun j t' hj => ?_⟩
    show ∃ u, s'.ths[j]? = some u ∧ TR (setE (setP P.cls t.call.toNat e.pt) t.call.toNat now (told t.ak t.av e.tl).1 (told t.ak t.av e.tl).2) t' u
    rw [hcc, h5]
    have hj' : (P.pts.set i ⟨none, false, t.call, 0, 0⟩)[j]? = some t' := hj
    rcases pts_set hj' with ⟨rfl, rfl⟩ | ⟨hne, hj2⟩
    · exact ⟨u, by simp [h.ln, hit], a2⟩
    · obtain ⟨u', b1, b2⟩ := h.th j t' hj2
      exact ⟨u', by rw [List.getElem?_set_ne (fun e => hne e.symm)]; exact b1, b2.kp hkp⟩
/-- A call begins. -/
theorem Sm.begins {P : Pg Dt Lw} {s s' : Rs} (h : Sm P s) {i : Nat} {t : Pt Dt} (ht : P.pts[i]? = some t) (op arg data now : Int) (k : Dt) (u : Rt)
    (h1 : s'.ws = s.ws) (h3 : s'.lg = s.lg) (h4 : s'.dn = s.dn ∧ s'.la = s.la) (h5 : s'.ths = s.ths.set i u) (h6 : s'.cls = s.cls ++ [⟨i, op, arg, data, now, -1, -1, 0, 0⟩]) (h7 : u.call = s.cls.length)
    (h8 : KR ⟨i, op, arg, data, now, -1, -1, 0, 0⟩ 0 0 k u) : Sm { P.count with cls := P.cls ++ [⟨i, op, arg, data, now, -1, -1, 0, 0⟩], pts := P.pts.set i ⟨some k, true, (P.cls.length : Int), 0, 0⟩ } s' := by
  have hit : i < P.pts.length := (List.getElem?_eq_some_iff.1 ht).1
  refine ⟨h1.trans h.ws, h.wu, by rw [h6, h.cls], h3.trans h.lg, by rw [h4.1, h4.2]; exact h.g, by rw [h5]; simpa using h.ln, fun j t' hj => ?_⟩
  rw [h5]
  have hj' : (P.pts.set i ⟨some k, true, (P.cls.length : Int), 0, 0⟩)[j]? = some t' := hj
  rcases pts_set hj' with ⟨rfl, rfl⟩ | ⟨hne, hj2⟩
  · exact ⟨u, by simp [h.ln, hit], P.cls.length, _, rfl, by rw [h7, h.cls], by simp, h8⟩
  · obtain ⟨u', b1, b2⟩ := h.th j t' hj2
    refine ⟨u', by rw [List.getElem?_set_ne (fun e => hne e.symm)]; exact b1, b2.kp (fun d x hx => ⟨x, ?_, rfl, rfl⟩)⟩
    have := (List.getElem?_eq_some_iff.1 hx).1
    rw [List.getElem?_append_left this]; exact hx
end Go.Proofs.YtnapnhmmopajfaaGreat.Rd
