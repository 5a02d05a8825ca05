import Derived.Test.YtihkcbbbgmjogaaJ27
import Derived.Test.YtihkcbbbgmjogaaJ28
/-
  DequeSwaps: owned.
-/
namespace Go.Proofs.Ytihkcbbbgmjogaa.Dm
open Go.RowKit Go.Shelf Mr Me Ma Gm Dq
set_option linter.unusedVariables false
set_option linter.unusedSimpArgs false
set_option maxRecDepth 100000
theorem clc_at (cls : List Cl) (i : Nat) (x : Cl) (h : cls[i]? = some x) (j : Nat) (u : Value) (hj : x.cells[j]? = some u) (h9 : j < 9) : (clc cls)[i * 9 + j]? = some u := by
  induction cls generalizing i with
  | nil => simp at h
  | cons y cls ih =>
    have hl : (Cl.cells y).length = 9 := rfl
    have e : clc (y :: cls) = Cl.cells y ++ clc cls := by simp [clc]
    rw [e]
    cases i with
    | zero =>
      simp at h; subst h
      rw [List.getElem?_append_left (by omega)]
      simpa using hj
    | succ i =>
      rw [List.getElem?_append_right (by omega), hl]
      have : (i + 1) * 9 + j - 9 = i * 9 + j := by omega
      rw [this]
      exact ih i (by simpa using h)
def OwP (cls : List Cl) (m : Int) (w : World) (e : Ending) (w' : World) : Prop := ∃ b, e = .returned (.bool b) ∧ (b = true → ¬ Own cls m) ∧ Below w.heap.size w w'
theorem owp {cls : List Cl} {m : Int} {w w' : World} {e : Ending} (b : Bool) (h1 : e = .returned (.bool b)) (h2 : b = true → ¬ Own cls m) (h3 : Below w.heap.size w w') : OwP cls m w e w' := ⟨b, h1, h2, h3⟩
set_option maxHeartbeats 4000000 in
theorem owned_any {w : World} {S : Nat → Prop} {g c1 : Nat} {p2 p3 p4 : Option Addr} {n2 c2 n3 c3 n4 c4 : Nat} (cls : List Cl) (hh : Has w S 53 9 (.slice (some ⟨g, 0, none⟩) cls.length c1) cls.length (clc cls)) (hg : g < w.heap.size) (hn : cls.length ≤ 100000) (m : Int) :
    Calls Try.prog 16 #[.agg #[.slice (some ⟨g, 0, none⟩) cls.length c1, .slice p2 n2 c2, .slice p3 n3 c3, .slice p4 n4 c4], .int .i64 m] w (OwP cls m w) := by
  have hc := hh.cells (g := g) rfl
  obtain ⟨W0, hW0⟩ : ∃ W0, w.alloc (.cells #[.slice (some ⟨g, 0, none⟩) cls.length c1, .slice p2 n2 c2, .slice p3 n3 c3, .slice p4 n4 c4] 43 (0, 0)) = W0 := ⟨_, rfl⟩
  have g0 : W0.heap[w.heap.size]? = some (.cells #[.slice (some ⟨g, 0, none⟩) cls.length c1, .slice p2 n2 c2, .slice p3 n3 c3, .slice p4 n4 c4] 43 (0, 0)) := by rw [← hW0]; exact heap_alloc_new w _
  have B0 : Below w.heap.size w W0 := by rw [← hW0]; exact (Below.refl _ _).alloc (Nat.le_refl _) _
  have y0 : W0.cell? ⟨w.heap.size, 0, none⟩ = some (.slice (some ⟨g, 0, none⟩) cls.length c1) := cell_at g0 0
  have s0 : W0.heap.size = w.heap.size + 1 := by rw [← hW0]; simp
  have atc : Hid (∀ (W : World), Below W0.heap.size W0 W → ∀ (i : Nat) (x : Cl), cls[i]? = some x → W.cell? ⟨w.heap.size, 0, none⟩ = some (.slice (some ⟨g, 0, none⟩) cls.length c1) ∧ W.cell? ⟨g, i * 9, none⟩ = some (.int .i64 x.th) ∧ W.cell? ⟨g, i * 9 + 1, none⟩ = some (.int .i64 x.op) ∧ W.cell? ⟨g, i * 9 + 2, none⟩ = some (.int .i64 x.arg) ∧ W.cell? ⟨g, i * 9 + 3, none⟩ = some (.int .i64 x.data) ∧ W.cell? ⟨g, i * 9 + 4, none⟩ = some (.int .i64 x.beg) ∧ W.cell? ⟨g, i * 9 + 5, none⟩ = some (.int .i64 x.fin) ∧ W.cell? ⟨g, i * 9 + 6, none⟩ = some (.int .i64 x.pt) ∧ W.cell? ⟨g, i * 9 + 7, none⟩ = some (.int .i64 x.ak) ∧ W.cell? ⟨g, i * 9 + 8, none⟩ = some (.int .i64 x.av)) := Mr.hid (fun W hB i x hx => by
    have lift : ∀ j u, (clc cls)[j]? = some u → W.cell? ⟨g, j, none⟩ = some u := fun j u hu => (hB.cell (p := ⟨g, j, none⟩) (by show g < _; omega)).trans ((B0.cell (p := ⟨g, j, none⟩) hg).trans (hc j u hu))
    exact ⟨(hB.cell (p := ⟨w.heap.size, 0, none⟩) (by show w.heap.size < _; omega)).trans y0, lift _ _ (clc_at cls i x hx 0 _ rfl (by omega)), lift _ _ (clc_at cls i x hx 1 _ rfl (by omega)), lift _ _ (clc_at cls i x hx 2 _ rfl (by omega)), lift _ _ (clc_at cls i x hx 3 _ rfl (by omega)), lift _ _ (clc_at cls i x hx 4 _ rfl (by omega)), lift _ _ (clc_at cls i x hx 5 _ rfl (by omega)), lift _ _ (clc_at cls i x hx 6 _ rfl (by omega)), lift _ _ (clc_at cls i x hx 7 _ rfl (by omega)), lift _ _ (clc_at cls i x hx 8 _ rfl (by omega))⟩)
  have yb : Hid (∀ (W : World), Below W0.heap.size W0 W → W.cell? ⟨w.heap.size, 0, none⟩ = some (.slice (some ⟨g, 0, none⟩) cls.length c1)) := Mr.hid (fun W hB => (hB.cell (p := ⟨w.heap.size, 0, none⟩) (by show w.heap.size < _; omega)).trans y0)
  replace B0 := Mr.hid B0
  replace s0 := Mr.hid s0
  clear hh hc g0 y0
  go_enter Try.func16, Try.ntmps16
  go_wp2
  go_loopg [5] cls.length (fun k s wr => ∃ (i : Nat), s = .int .i64 (i : Int) ∧ i + k = cls.length ∧ Below W0.heap.size W0 wr)
  case atStart => exact ⟨0, rfl, by omega, Below.refl _ _⟩
  case round =>
    obtain ⟨i, rfl, hi, hB⟩ := hrel
    by_cases hlt : i < cls.length
    · obtain ⟨x, hx⟩ : ∃ x, cls[i]? = some x := ⟨_, List.getElem?_eq_getElem hlt⟩
      obtain ⟨z, z0, z1, z2, z3, z4, z5, z6, z7, z8⟩ := atc.out wr hB i x hx
      have hBB : Hid (∀ o, Below W0.heap.size W0 (wr.alloc o)) := Mr.hid (fun o => hB.alloc hB.size o)
      have hil : (i : Int) < (cls.length : Int) := by omega
      have no : Hid ((x.th == 0) = true → decide (x.beg < m) = true → (decide (x.fin < 0) = true ∨ decide (m ≤ x.fin) = true) → (x.op == 91) = true → ¬ Own cls m) := Mr.hid (fun e0 e1 e2 e3 ho => by
        have := ho i x hx (by simpa using e0) (by simpa using e3) (by simpa using e1)
        simp at e2
        omega)
      replace hB := Mr.hid hB
      clear hx
      generalize hb0 : (x.th == 0) = b0 at *
      generalize hb1 : decide (x.beg < m) = b1 at *
      generalize hb2 : decide (x.fin < 0) = b2 at *
      generalize hb3 : decide (m ≤ x.fin) = b3 at *
      generalize hb4 : (x.op == 91) = b4 at *
      have fin : Hid (∀ o, Below w.heap.size w (wr.alloc o)) := Mr.hid (fun o => B0.out.trans ((hBB.out o).mono (by have := s0.out; omega)))
      cases b0 with
      | false =>
        go_wp2
        go_roundg (gk - 1)
        case measure => omega
        case rel => exact ⟨i + 1, by simp, by omega, hBB.out _⟩
      | true =>
        cases b1 with
        | false =>
          go_wp2
          go_roundg (gk - 1)
          case measure => omega
          case rel => exact ⟨i + 1, by simp, by omega, hBB.out _⟩
        | true =>
          cases b2 with
          | true =>
            go_wp2
            go_ret
            exact owp b4 (by simp) (fun h => no.out (by simp) (by simp) (by simp) (by simpa using h)) (fin.out _)
          | false =>
            cases b3 with
            | true =>
              go_wp2
              go_ret
              exact owp b4 (by simp) (fun h => no.out (by simp) (by simp) (by simp) (by simpa using h)) (fin.out _)
            | false =>
              go_wp2
              go_roundg (gk - 1)
              case measure => omega
              case rel => exact ⟨i + 1, by simp, by omega, hBB.out _⟩
    · obtain rfl : i = cls.length := by omega
      have y := yb.out wr hB
      replace hB := Mr.hid hB
      go_wp2
      go_ret
      exact owp false (by simp) (fun h => (by cases h)) (B0.out.trans (hB.out.mono (by have := s0.out; omega)))
end Go.Proofs.Ytihkcbbbgmjogaa.Dm
/-
  DequeOnce, pure, the first part: what is pushed is what was given, what the owner holds and what lies between top and bottom; a step, told by its effect.
-/
namespace Go.Proofs.Ytihkcbbbgmjogaa.Dm
open Go.RowKit Go.Shelf Mr Me Ma Gm Dq
set_option linter.unusedVariables false
set_option linter.unusedSimpArgs false
def Wi (x : Int) : Prop := -9223372036854775808 ≤ x ∧ x ≤ 9223372036854775807
theorem w64_nUw {x : Int} (h : Wi x) : wrap64 (nU x) = x := by
  have e : nU x = x % 18446744073709551616 := rfl
  rw [e]; unfold wrap64; unfold Wi at h; omega
/-- A cell's value; the values from an index on. -/
def cv (r : Nat) (ws : List Int) (k : Int) : Int := wrap64 (rd ws (cel r k))
def sg (r : Nat) (ws : List Int) (t : Int) (n : Nat) : List Int := (List.range n).map (fun j => cv r ws (t + (j : Nat)))
theorem cel_inj {r : Nat} {a b : Int} (h0 : 0 ≤ a) (h1 : a < b) (h2 : b - a < r) : cel r a ≠ cel r b := by
  intro e
  have e' : a.toNat % r = b.toNat % r := by unfold cel at e; omega
  have h3 := Nat.sub_mod_eq_zero_of_mod_eq e'.symm
  rw [Nat.mod_eq_of_lt (by omega)] at h3
  omega
theorem cv_0 (r : Nat) (ws : List Int) (x k : Int) : cv r (ws.set 0 x) k = cv r ws k := by unfold cv; rw [rd_other _ (fun e => (cel_ne r k).1 e.symm)]
theorem cv_1 (r : Nat) (ws : List Int) (x k : Int) : cv r (ws.set 1 x) k = cv r ws k := by unfold cv; rw [rd_other _ (fun e => (cel_ne r k).2 e.symm)]
theorem cv_c {r : Nat} (ws : List Int) (x : Int) {a b : Int} (h0 : 0 ≤ a) (h1 : a < b) (h2 : b - a < r) : cv r (ws.set (cel r b) x) a = cv r ws a := by unfold cv; rw [rd_other _ (fun e => cel_inj h0 h1 h2 e.symm)]
theorem sg_congr {r : Nat} {ws ws' : List Int} {t : Int} {n : Nat} (h : ∀ j : Nat, j < n → cv r ws (t + j) = cv r ws' (t + j)) : sg r ws t n = sg r ws' t n := by
  unfold sg
  exact List.map_congr_left (fun j hj => h j (List.mem_range.1 hj))
theorem sg_snoc (r : Nat) (ws : List Int) (t : Int) (n : Nat) : sg r ws t (n + 1) = sg r ws t n ++ [cv r ws (t + n)] := by simp [sg, List.range_succ]
theorem sg_cons (r : Nat) (ws : List Int) (t : Int) (n : Nat) : sg r ws t (n + 1) = cv r ws t :: sg r ws (t + 1) n := by
  unfold sg
  rw [List.range_succ_eq_map, List.map_cons, List.map_map]
  congr 1
  · simp
  · apply List.map_congr_left
    intro j _
    simp only [Function.comp]
    congr 1
    show t + ((j + 1 : Nat) : Int) = t + 1 + (j : Nat)
    omega
theorem sg_zero (r : Nat) (ws : List Int) (t : Int) : sg r ws t 0 = [] := rfl
/-- What a call gives to the deque, what it gives out. -/
def ci (x : Cl) : List Int := if x.op = 90 ∧ x.ak = 1 then [x.arg] else []
def co (x : Cl) : List Int := if x.op ≠ 90 ∧ x.ak = 2 then [x.av] else []
def inL (cls : List Cl) : List Int := cls.flatMap ci
def outL (cls : List Cl) : List Int := cls.flatMap co
/-- What the owner holds. -/
def hdF (r : Nat) (ws : List Int) : Option Dt → Int → Int → List Int
  | some (.take nx l t _), ak, av => if nx = 5 then (if t < l then [cv r ws l] else []) else if (nx = 4 ∨ nx = 7) ∧ ak = 2 then [av] else []
  | _, _, _ => []
def hdO (r : Nat) (ws : List Int) : Option (Pt Dt) → List Int
  | some t => hdF r ws t.tk t.ak t.av
  | none => []
/-- The owner's view: bottom's word, and what it may rest on. -/
def On (r : Nat) (ws : List Int) (B : Int) : Option Dt → Prop
  | some (.push nx v bt) => rd ws 1 = nU B ∧ (2 ≤ nx → bt = B) ∧ (3 ≤ nx → B - rd ws 0 < r) ∧ (4 ≤ nx → cv r ws B = v)
  | some (.take nx l t v) => (nx ≤ 2 → rd ws 1 = nU B) ∧ (nx = 2 → l = B - 1) ∧ (3 ≤ nx → rd ws 1 = nU l) ∧ (nx = 3 → B = l + 1) ∧ (nx = 4 → B = t ∧ rd ws 0 = t ∧ l < t) ∧ (nx = 5 → t ≤ rd ws 0 ∧ t ≤ l ∧ (t < l → B = l) ∧ (¬ t < l → B = l + 1)) ∧ (nx = 6 → t = l ∧ t ≤ rd ws 0 ∧ B = l + 1 ∧ (rd ws 0 = l → cv r ws l = v)) ∧ (nx = 7 → B = t + 1 ∧ rd ws 0 = t + 1 ∧ l ≤ t)
  | _ => rd ws 1 = nU B
/-- A thief's. -/
def Sl (r : Nat) (ws : List Int) (B : Int) : Dt → Prop
  | .steal nx t v => (2 ≤ nx → t ≤ rd ws 0) ∧ (3 ≤ nx → t = rd ws 0 → rd ws 0 < B) ∧ (4 ≤ nx → t = rd ws 0 → cv r ws t = v)
  | _ => True
/-- Whose call a task is in. -/
def Cb (x : Cl) : Dt → Prop
  | .push _ v _ => x.op = 90 ∧ x.arg = v
  | .take .. => x.op = 91
  | .steal .. => x.op = 92
structure Oi (r : Nat) (P : Pg Dt Lw) (B : Int) : Prop where
  t0 : 0 ≤ rd P.ws 0
  tb : rd P.ws 0 ≤ B
  room : B - rd P.ws 0 ≤ r
  nn : B ≤ P.n
  own : On r P.ws B (tkF P.pts 0)
  stl : ∀ (i : Nat) (t : Pt Dt) (k : Dt), P.pts[i]? = some t → t.tk = some k → Sl r P.ws B k
  cal : ∀ (i : Nat) (t : Pt Dt) (k : Dt), P.pts[i]? = some t → t.tk = some k → ∃ (c : Nat) (x : Cl), t.call = (c : Int) ∧ P.cls[c]? = some x ∧ x.th = (i : Int) ∧ x.ak = 0 ∧ Cb x k
  wf : ∀ (c : Nat) (x : Cl), P.cls[c]? = some x → Wi x.arg
  opn : ∀ (c : Nat) (x : Cl), P.cls[c]? = some x → 0 ≤ x.fin ∨ ∃ (i : Nat) (t : Pt Dt), P.pts[i]? = some t ∧ t.tk.isSome = true ∧ t.call = (c : Int)
  bal : (inL P.cls).Perm (outL P.cls ++ (hdO r P.ws P.pts[0]? ++ sg r P.ws (rd P.ws 0) (B - rd P.ws 0).toNat))
theorem flat_set {α β : Type} (f : α → List β) : ∀ (l : List α) (c : Nat) (x x' : α), l[c]? = some x → f x = [] → ((l.set c x').flatMap f).Perm (f x' ++ l.flatMap f)
  | [], _, _, _, h, _ => by simp at h
  | a :: l, 0, x, x', h, h0 => by
      simp at h; subst h
      simp [h0]
  | a :: l, c + 1, x, x', h, h0 => by
      have ih := flat_set f l c x x' (by simpa using h) h0
      simp only [List.set_cons_succ, List.flatMap_cons]
      exact ((List.Perm.refl (f a)).append ih).trans (List.perm_append_comm_assoc _ _ _)
theorem ci_zero {x : Cl} (h : x.ak = 0) : ci x = [] := by unfold ci; rw [if_neg (by omega)]
theorem co_zero {x : Cl} (h : x.ak = 0) : co x = [] := by unfold co; rw [if_neg (by omega)]
theorem set_same {α : Type} {l : List α} {c : Nat} {x : α} (h : l[c]? = some x) : l.set c x = l := by
  apply List.ext_getElem?
  intro i
  rw [List.getElem?_set]
  split
  · rename_i e; subst e
    rw [if_pos (List.getElem?_eq_some_iff.1 h).1, h]
  · rfl
theorem setP_set {cls : List Cl} {c : Nat} {x : Cl} (h : cls[c]? = some x) (pt : Option Int) : ∃ x', setP cls c pt = cls.set c x' ∧ x'.th = x.th ∧ x'.op = x.op ∧ x'.arg = x.arg ∧ x'.ak = x.ak := by
  unfold setP
  rw [h]
  cases pt with
  | none => exact ⟨x, (set_same h).symm, rfl, rfl, rfl, rfl⟩
  | some m => exact ⟨_, rfl, rfl, rfl, rfl, rfl⟩
/-- What a step makes of the calls. -/
theorem step_cls {P : Pg Dt Lw} {i : Nat} {t : Pt Dt} {now : Int} {e : Df} {c : Nat} {x : Cl} (hc : t.call = (c : Int)) (hx : P.cls[c]? = some x) : ∃ x', (P.count.stepE i t now e).cls = P.cls.set c x' ∧ x'.th = x.th ∧ x'.op = x.op ∧ x'.arg = x.arg ∧ (e.tk = none → x'.ak = (endA (told t.ak t.av e.tl).1 (told t.ak t.av e.tl).2).1 ∧ x'.av = (endA (told t.ak t.av e.tl).1 (told t.ak t.av e.tl).2).2) ∧ (e.tk ≠ none → x'.ak = x.ak) ∧ (e.tk = none → x'.fin = now) := by
  have hct : t.call.toNat = c := by rw [hc]; exact Int.toNat_natCast c
  have hl := (List.getElem?_eq_some_iff.1 hx).1
  obtain ⟨y, h1, h2, h3, h4, h5⟩ := setP_set hx e.pt
  unfold Pg.stepE
  cases hk : e.tk with
  | some k' =>
    refine ⟨y, ?_, h2, h3, h4, fun h => (by cases h), fun _ => h5, fun h => (by cases h)⟩
    show setP P.cls t.call.toNat e.pt = _
    rw [hct]; exact h1
  | none =>
    refine ⟨{ y with fin := now, ak := (endA (told t.ak t.av e.tl).1 (told t.ak t.av e.tl).2).1, av := (endA (told t.ak t.av e.tl).1 (told t.ak t.av e.tl).2).2 }, ?_, h2, h3, h4, fun _ => ⟨rfl, rfl⟩, fun h => absurd rfl h, fun _ => rfl⟩
    show setE (setP P.cls t.call.toNat e.pt) t.call.toNat now _ _ = _
    rw [hct, h1]
    unfold setE
    rw [List.getElem?_set_self hl]
    simp
theorem Oi.stepE {r : Nat} {P : Pg Dt Lw} {B B' : Int} (h : Oi r P B) {i : Nat} {t : Pt Dt} {k : Dt} (ht : P.pts[i]? = some t) (hk : t.tk = some k) (now : Int) (hnow : 0 ≤ now) (e : Df)
    (E1 : 0 ≤ rd e.ws 0 ∧ rd e.ws 0 ≤ B' ∧ B' - rd e.ws 0 ≤ r ∧ B' ≤ P.n + 1)
    (E2 : On r e.ws B' (if i = 0 then e.tk else tkF P.pts 0))
    (E3 : ∀ k', e.tk = some k' → Sl r e.ws B' k' ∧ ∀ x, Cb x k → Cb x k')
    (E4 : ∀ k', Sl r P.ws B k' → Sl r e.ws B' k')
    (E5 : ∀ x' : Cl, Cb x' k → Wi x'.arg → (e.tk = none → x'.ak = (endA (told t.ak t.av e.tl).1 (told t.ak t.av e.tl).2).1 ∧ x'.av = (endA (told t.ak t.av e.tl).1 (told t.ak t.av e.tl).2).2) → (e.tk ≠ none → x'.ak = 0) →
      (ci x' ++ (hdO r P.ws P.pts[0]? ++ sg r P.ws (rd P.ws 0) (B - rd P.ws 0).toNat)).Perm (co x' ++ ((if i = 0 then hdF r e.ws e.tk (told t.ak t.av e.tl).1 (told t.ak t.av e.tl).2 else hdO r e.ws P.pts[0]?) ++ sg r e.ws (rd e.ws 0) (B' - rd e.ws 0).toNat))) :
    Oi r (P.count.stepE i t now e) B' := by
  have hi : i < P.pts.length := (List.getElem?_eq_some_iff.1 ht).1
  obtain ⟨c, x, hc, hx, hth, hak, hcb⟩ := h.cal i t k ht hk
  obtain ⟨x', hcl, y1, y2, y3, y4, y5, y6⟩ := step_cls (i := i) (now := now) (e := e) hc hx
  have hcb' : Cb x' k := by cases k <;> simp only [Cb] at hcb ⊢ <;> rw [y2] <;> first | exact hcb | exact ⟨hcb.1, y3.trans hcb.2⟩
  have hp := E5 x' hcb' (by rw [y3]; exact h.wf c x hx) y4 (fun hne => (y5 hne).trans hak)
  obtain ⟨Q, hQ⟩ : ∃ Q, P.count.stepE i t now e = Q := ⟨_, rfl⟩
  have q1 : Q.ws = e.ws := by rw [← hQ]; unfold Pg.stepE; split <;> rfl
  have q2 : Q.n = P.n + 1 := by rw [← hQ, stepE_n]; rfl
  have q3 : ∃ u : Pt Dt, u.tk = e.tk ∧ u.call = t.call ∧ Q.pts = P.pts.set i u ∧ hdO r e.ws (some u) = hdF r e.ws e.tk (told t.ak t.av e.tl).1 (told t.ak t.av e.tl).2 := by
    rw [← hQ]; unfold Pg.stepE
    split
    · rename_i k hk; exact ⟨⟨some k, false, t.call, (told t.ak t.av e.tl).1, (told t.ak t.av e.tl).2⟩, hk.symm, rfl, rfl, by rw [hk]; rfl⟩
    · rename_i hk; exact ⟨⟨none, false, t.call, 0, 0⟩, hk.symm, rfl, rfl, by rw [hk]; rfl⟩
  rw [hQ] at hcl ⊢
  obtain ⟨u, hu, hcu, hpt, hhd⟩ := q3
  have hl := (List.getElem?_eq_some_iff.1 hx).1
  refine ⟨by rw [q1]; exact E1.1, by rw [q1]; exact E1.2.1, by rw [q1]; exact E1.2.2.1, by rw [q2]; have := E1.2.2.2; omega, ?_, fun j t' k' hj hk' => ?_, fun j t' k' hj hk' => ?_, fun c' z hz => ?_, fun c' z hz => ?_, ?_⟩
  · rw [q1, hpt, tkF_set _ _ _ hi, hu]
    by_cases h0 : i = 0
    · subst h0; rw [upd_same]; rw [if_pos rfl] at E2; exact E2
    · rw [upd_other _ _ _ _ (fun e => h0 e.symm)]; rw [if_neg h0] at E2; exact E2
  · rw [q1]
    rw [hpt] at hj
    rcases pts_set hj with ⟨rfl, rfl⟩ | ⟨_, hj⟩
    · exact (E3 k' (by rw [← hu]; exact hk')).1
    · exact E4 k' (h.stl j t' k' hj hk')
  · rw [hpt] at hj
    rcases pts_set hj with ⟨rfl, rfl⟩ | ⟨hji, hj⟩
    · have he : e.tk = some k' := by rw [← hu]; exact hk'
      refine ⟨c, x', hcu.trans hc, by rw [hcl]; exact List.getElem?_set_self hl, y1.trans hth, (y5 (by rw [he]; exact fun h => by cases h)).trans hak, (E3 k' he).2 x' hcb'⟩
    · obtain ⟨c', z, w1, w2, w3, w4, w5⟩ := h.cal j t' k' hj hk'
      refine ⟨c', z, w1, ?_, w3, w4, w5⟩
      rw [hcl, List.getElem?_set_ne]
      · exact w2
      · rintro rfl
        rw [hx] at w2; cases w2
        omega
  · rw [hcl] at hz
    rw [List.getElem?_set] at hz
    split at hz
    · cases hz; rw [y3]; exact h.wf c x hx
    · exact h.wf c' z hz
  · rw [hcl] at hz
    rw [List.getElem?_set] at hz
    split at hz
    · rename_i ec
      subst ec
      cases hz
      by_cases he : e.tk = none
      · exact .inl (by rw [y6 he]; exact hnow)
      · refine .inr ⟨i, u, by rw [hpt]; exact List.getElem?_set_self hi, ?_, hcu.trans hc⟩
        rw [hu]
        cases h9 : e.tk with
        | none => exact absurd h9 he
        | some k' => rfl
    · rename_i hne
      rcases h.opn c' z hz with h1 | ⟨j, t', g1, g2, g3⟩
      · exact .inl h1
      · refine .inr ⟨j, t', ?_, g2, g3⟩
        rw [hpt, List.getElem?_set_ne]
        · exact g1
        · rintro rfl
          rw [ht] at g1; cases g1
          omega
  · rw [hcl, q1]
    have f1 := flat_set ci P.cls c x x' hx (ci_zero hak)
    have f2 := flat_set co P.cls c x x' hx (co_zero hak)
    have e0 : hdO r e.ws Q.pts[0]? = (if i = 0 then hdF r e.ws e.tk (told t.ak t.av e.tl).1 (told t.ak t.av e.tl).2 else hdO r e.ws P.pts[0]?) := by
      rw [hpt]
      by_cases h0 : i = 0
      · subst h0; rw [List.getElem?_set_self hi, if_pos rfl, hhd]
      · rw [List.getElem?_set_ne h0, if_neg h0]
    rw [e0]
    have s1 := f1.trans ((List.Perm.refl (ci x')).append h.bal)
    have s2 := s1.trans (List.perm_append_comm_assoc _ _ _)
    have s3 := s2.trans ((List.Perm.refl (outL P.cls)).append hp)
    have s4 := s3.trans (List.perm_append_comm_assoc _ _ _)
    rw [← List.append_assoc] at s4
    exact s4.trans (f2.symm.append (List.Perm.refl _))
end Go.Proofs.Ytihkcbbbgmjogaa.Dm
