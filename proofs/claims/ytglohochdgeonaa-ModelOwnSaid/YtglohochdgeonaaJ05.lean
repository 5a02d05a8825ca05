import Derived.Test.YtglohochdgeonaaJ04
/-
  reclaimmodel.May, of any contents.
-/
namespace Go.Proofs.Ytglohochdgeonaa.Md
open Go.RowKit Mr
set_option linter.unusedVariables false
set_option linter.unusedSimpArgs false
/-- Strictly rising, none twice. -/
def Ris (l : List Int) : Prop := ∀ j, j + 1 < l.length → l[j]?.getD 0 < l[j + 1]?.getD 0
/-- Contents that may be. -/
def May (x : Ct) : Prop := x.cell.length ≤ 1 ∧ Ris x.set ∧ Ris (x.table.map Prod.fst)
theorem ris_step {l : List Int} {i : Nat} (h : ∀ j, j + 1 < i → l[j]?.getD 0 < l[j + 1]?.getD 0) (hi : 0 < i) (hs : l[i - 1]?.getD 0 < l[i]?.getD 0) : ∀ j, j + 1 < i + 1 → l[j]?.getD 0 < l[j + 1]?.getD 0 := fun j hj => by
  by_cases e : j + 1 = i
  · subst e; simpa using hs
  · exact h j (by omega)
theorem key_get (l : List (Int × Int)) (i : Nat) : (l.map Prod.fst)[i]?.getD 0 = (l[i]?.getD (0, 0)).1 := by
  rw [List.getElem?_map]
  cases l[i]? <;> rfl
theorem i64w (x : Int) (h1 : -9223372036854775808 ≤ x) (h2 : x ≤ 9223372036854775807) : IntKind.i64.wrap x = x := by
  simp [IntKind.wrap, IntKind.signed, IntKind.bits]; omega
set_option maxRecDepth 100000 in
set_option maxHeartbeats 8000000 in
theorem may_any {w : World} {S : Nat → Prop} {u0 u1 u2 u3 u4 : Value} {x : Ct} (hu : CtAt w S u0 u1 u2 u3 u4 x) (hsx : CtSm x) (b : Bool) (hb : b = true ↔ May x) :
    Calls Try.prog 27 #[.agg #[u0, u1, u2, u3, u4]] w fun e w' => e = .returned (.bool b) ∧ Below w.heap.size w w' := by
  obtain ⟨a0, c0, rfl, _⟩ := hu.cell.form
  obtain ⟨a1, c1, rfl, _⟩ := hu.stack.form
  obtain ⟨a2, c2, rfl, _⟩ := hu.queue.form
  obtain ⟨a3, c3, rfl, _⟩ := hu.set.form
  obtain ⟨a4, c4, rfl, _⟩ := hu.table.form
  have ts := fun w' (hB : Below w.heap.size w w') => (hu.below hB).set
  have tt := fun w' (hB : Below w.heap.size w w') => (hu.below hB).table
  have s3 := hsx.set
  have s4 := hsx.table
  have BX := fun w' (hB : Below (w.heap.size + 1) (w.alloc (ctO (.slice a0 x.cell.length c0) (.slice a1 x.stack.length c1) (.slice a2 x.queue.length c2) (.slice a3 x.set.length c3) (.slice a4 x.table.length c4))) w') => ctO_cells ((hB.block _ (by omega)).trans (new_at w _ _ rfl))
  have TW := fun w' (hB : Below (w.heap.size + 1) (w.alloc (ctO (.slice a0 x.cell.length c0) (.slice a1 x.stack.length c1) (.slice a2 x.queue.length c2) (.slice a3 x.set.length c3) (.slice a4 x.table.length c4))) w') => (((Below.refl w.heap.size w).alloc (Nat.le_refl _) _).trans (hB.mono (by omega)) : Below w.heap.size w w')
  have hB0 := Below.refl (w.heap.size + 1) (w.alloc (ctO (.slice a0 x.cell.length c0) (.slice a1 x.stack.length c1) (.slice a2 x.queue.length c2) (.slice a3 x.set.length c3) (.slice a4 x.table.length c4)))
  obtain ⟨y0, y1, y2, y3, y4, y5⟩ := BX _ hB0
  clear hu hsx
  obtain ⟨n0, hn0⟩ : ∃ n, n = x.cell.length := ⟨_, rfl⟩
  obtain ⟨n3, hn3⟩ : ∃ n, n = x.set.length := ⟨_, rfl⟩
  obtain ⟨n4, hn4⟩ : ∃ n, n = x.table.length := ⟨_, rfl⟩
  generalize x.stack.length = n1 at *
  generalize x.queue.length = n2 at *
  rw [← hn3] at s3
  rw [← hn4] at s4
  simp only [← hn0, ← hn3, ← hn4] at y0 y1 y2 y3 y4 BX TW hB0 ts tt ⊢
  unfold ctO at y0 y1 y2 y3 y4 BX TW hB0
  replace ts := Mr.hid ts
  replace tt := Mr.hid tt
  replace BX := Mr.hid BX
  replace TW := Mr.hid TW
  replace hb := Mr.hid hb
  replace hn0 := Mr.hid hn0
  replace hn3 := Mr.hid hn3
  replace hn4 := Mr.hid hn4
  by_cases h0 : n0 ≤ 1
  · have d0 : decide ((1 : Int) < (n0 : Int)) = false := decide_eq_false (by omega)
    replace hB0 := Mr.hid hB0
    go_enter Try.func27, Try.ntmps27
    go_wp2
    clear y0 y1 y2 y3 y4 y5
    go_loopg [3] n3 (fun k s wr => ∃ i : Nat, s = .int .i64 ((i : Int) + 1) ∧ i + k = n3 ∧ Below (w.heap.size + 1) (w.alloc (.cells #[.slice a0 n0 c0, .slice a1 n1 c1, .slice a2 n2 c2, .slice a3 n3 c3, .slice a4 n4 c4] 25 (0, 0))) wr ∧ ∀ j, j + 1 < i + 1 → x.set[j]?.getD 0 < x.set[j + 1]?.getD 0)
    case atStart => exact ⟨0, rfl, by omega, hB0.out, fun j hj => by omega⟩
    case round =>
      obtain ⟨i, rfl, hi, B, ht⟩ := hrel
      have BT := TW.out _ B
      obtain ⟨y0, y1, y2, y3, y4, y5⟩ := BX.out wr B
      by_cases hlt : i + 1 < n3
      · have hu := ts.out wr BT
        obtain ⟨gu, ou, cu', hgu, _, _, hul, ru⟩ := hu.there (by omega)
        cases hgu
        have k1 := ru (i + 1) _ (ints_get x.set (i + 1) (by have := hn3.out; omega))
        have k2 := ru i _ (ints_get x.set i (by have := hn3.out; omega))
        have hli : ((i : Int) + 1) < (n3 : Int) := by omega
        have ewr : IntKind.i64.wrap ((i : Int) + 1 - 1) = (i : Int) := by rw [show (i : Int) + 1 - 1 = (i : Int) from by omega]; exact i64w _ (by omega) (by omega)
        have e1 : ((i : Int) + 1).toNat = i + 1 := by omega
        by_cases hq : x.set[i]?.getD 0 < x.set[i + 1]?.getD 0
        · have st := ris_step (l := x.set) (i := i + 1) ht (by omega) (by simpa using hq)
          generalize x.set[i]?.getD 0 = q1 at *
          generalize x.set[i + 1]?.getD 0 = q2 at *
          have d1 : decide (q2 ≤ q1) = false := decide_eq_false (by omega)
          clear hu ru ht hq
          replace st := Mr.hid st
          replace B := Mr.hid B
          replace BT := Mr.hid BT
          go_wp2
          go_quiet (fail)
          have hBq := Bx.draws wr.heap.size wr nq
          have hB := B.out.trans (hBq.mono (by omega))
          clear hBq y0 y1 y2 y3 y4 y5 k1 k2 hul BT B
          generalize wr.drewN nq = W6 at *
          replace hB := Mr.hid hB
          go_wp2
          go_roundg (gk - 1)
          case measure => omega
          case rel => exact ⟨i + 1, by simp, by omega, hB.out, st.out⟩
        · have hbf : b = false := by
            cases hbb : b with
            | false => rfl
            | true => exact absurd ((hb.out.1 hbb).2.1 i (by have := hn3.out; omega)) hq
          subst hbf
          generalize x.set[i]?.getD 0 = q1 at *
          generalize x.set[i + 1]?.getD 0 = q2 at *
          have d1 : decide (q2 ≤ q1) = true := decide_eq_true (by omega)
          clear hu ru ht hq
          replace B := Mr.hid B
          replace BT := Mr.hid BT
          go_wp2
          go_quiet (fail)
          have hBq := Bx.draws w.heap.size wr nq
          have hB := BT.out.trans hBq
          clear hBq y0 y1 y2 y3 y4 y5 k1 k2 hul BT B
          generalize wr.drewN nq = W6 at *
          replace hB := Mr.hid hB
          go_wp2
          go_ret
          exact ⟨rfl, hB.out⟩
      · have hS : Ris x.set := fun j hj => ht j (by have := hn3.out; omega)
        have dl : decide (((i : Int) + 1) < (n3 : Int)) = false := decide_eq_false (by omega)
        clear ht
        replace hS := Mr.hid hS
        replace B := Mr.hid B
        clear BT
        go_wp2
        clear y0 y1 y2 y3 y4 y5 dl
        go_loopg [4] n4 (fun k s wr => ∃ i : Nat, s = .int .i64 ((i : Int) + 1) ∧ i + k = n4 ∧ Below (w.heap.size + 1) (w.alloc (.cells #[.slice a0 n0 c0, .slice a1 n1 c1, .slice a2 n2 c2, .slice a3 n3 c3, .slice a4 n4 c4] 25 (0, 0))) wr ∧ ∀ j, j + 1 < i + 1 → (x.table.map Prod.fst)[j]?.getD 0 < (x.table.map Prod.fst)[j + 1]?.getD 0)
        case atStart => exact ⟨0, rfl, by omega, B.out, fun j hj => by omega⟩
        case round =>
          obtain ⟨m, rfl, hm, B2, ht⟩ := hrel
          have BT := TW.out _ B2
          obtain ⟨y0, y1, y2, y3, y4, y5⟩ := BX.out _ B2
          by_cases hlt2 : m + 1 < n4
          · have hu := tt.out _ BT
            obtain ⟨gu, ou, cu', hgu, _, _, hul, ru⟩ := hu.there (by omega)
            cases hgu
            have k1 := ru _ _ (prs_get x.table (m + 1) (by have := hn4.out; omega)).1
            have k2 := ru _ _ (prs_get x.table m (by have := hn4.out; omega)).1
            have hli : ((m : Int) + 1) < (n4 : Int) := by omega
            have ewr : IntKind.i64.wrap ((m : Int) + 1 - 1) = (m : Int) := by rw [show (m : Int) + 1 - 1 = (m : Int) from by omega]; exact i64w _ (by omega) (by omega)
            have e1 : ((m : Int) + 1).toNat = m + 1 := by omega
            rw [← key_get] at k1 k2
            by_cases hq : (x.table.map Prod.fst)[m]?.getD 0 < (x.table.map Prod.fst)[m + 1]?.getD 0
            · have st := ris_step (l := x.table.map Prod.fst) (i := m + 1) ht (by omega) (by simpa using hq)
              generalize (x.table.map Prod.fst)[m]?.getD 0 = q1 at *
              generalize (x.table.map Prod.fst)[m + 1]?.getD 0 = q2 at *
              have d1 : decide (q2 ≤ q1) = false := decide_eq_false (by omega)
              clear hu ru ht hq
              replace st := Mr.hid st
              replace B2 := Mr.hid B2
              replace BT := Mr.hid BT
              go_wp2
              go_quiet (fail)
              have hBq := Bx.draws wr.heap.size wr nq
              have hB := B2.out.trans (hBq.mono (by omega))
              clear hBq y0 y1 y2 y3 y4 y5 k1 k2 hul BT B2
              generalize wr.drewN nq = W6 at *
              replace hB := Mr.hid hB
              go_wp2
              go_roundg (gk - 1)
              case measure => omega
              case rel => exact ⟨m + 1, by simp, by omega, hB.out, st.out⟩
            · have hbf : b = false := by
                cases hbb : b with
                | false => rfl
                | true => exact absurd ((hb.out.1 hbb).2.2 m (by rw [List.length_map]; have := hn4.out; omega)) hq
              subst hbf
              generalize (x.table.map Prod.fst)[m]?.getD 0 = q1 at *
              generalize (x.table.map Prod.fst)[m + 1]?.getD 0 = q2 at *
              have d1 : decide (q2 ≤ q1) = true := decide_eq_true (by omega)
              clear hu ru ht hq
              replace B2 := Mr.hid B2
              replace BT := Mr.hid BT
              go_wp2
              go_quiet (fail)
              have hBq := Bx.draws w.heap.size wr nq
              have hB := BT.out.trans hBq
              clear hBq y0 y1 y2 y3 y4 y5 k1 k2 hul BT B2
              generalize wr.drewN nq = W6 at *
              replace hB := Mr.hid hB
              go_wp2
              go_ret
              exact ⟨rfl, hB.out⟩
          · have hbt : b = true := hb.out.2 ⟨by have := hn0.out; omega, hS.out, fun j hj => ht j (by rw [List.length_map] at hj; have := hn4.out; omega)⟩
            subst hbt
            have dl : decide (((m : Int) + 1) < (n4 : Int)) = false := decide_eq_false (by omega)
            clear ht
            replace BT := Mr.hid BT
            clear B2
            go_wp2
            go_ret
            exact ⟨rfl, BT.out⟩
  · have d0 : decide ((1 : Int) < (n0 : Int)) = true := decide_eq_true (by omega)
    have hbf : b = false := by
      cases hbb : b with
      | false => rfl
      | true => exact absurd (hn0.out ▸ (hb.out.1 hbb).1) h0
    subst hbf
    have hE := Mr.hid (TW.out _ hB0)
    clear hB0
    go_enter Try.func27, Try.ntmps27
    go_wp2
    go_ret
    exact ⟨rfl, hE.out⟩
end Go.Proofs.Ytglohochdgeonaa.Md
/-
  reclaimmodel.Object, kind, value, yes; set and table: where a key stands.
-/
namespace Go.Proofs.Ytglohochdgeonaa.Md
open Go.RowKit Mr
set_option linter.unusedVariables false
set_option linter.unusedSimpArgs false
/-- The number of an op's object. -/
def obj (op : Int) : Int := if op = 22 ∨ op = 23 then 1 else if op = 30 ∨ op = 31 then 2 else if op = 40 ∨ op = 41 then 3 else if op = 50 ∨ op = 51 ∨ op = 52 then 4 else if op = 60 ∨ op = 61 ∨ op = 62 then 5 else 0

/-- Where a key stands in a rising list; whether it is there. -/
def plc (l : List Int) (k : Int) : Nat := (l.takeWhile (fun x => decide (x < k))).length
def inB (l : List Int) (k : Int) : Bool := l[plc l k]? == some k
theorem in_eq {l : List Int} {i : Nat} {k : Int} (h : i < l.length) : (l[i]? == some k) = (l[i]?.getD 0 == k) := by rw [List.getElem?_eq_getElem h]; simp
theorem in_no {l : List Int} {i : Nat} {k : Int} (h : l.length ≤ i) : (l[i]? == some k) = false := by rw [List.getElem?_eq_none h]; rfl
theorem plc_eq {l : List Int} {i : Nat} {k : Int} (h : ∀ j, j < i → l[j]?.getD 0 < k) (he : i = l.length ∨ (i < l.length ∧ ¬ l[i]?.getD 0 < k)) : plc l k = i := by
  induction l generalizing i with
  | nil => rcases he with he | ⟨he, _⟩ <;> simp at he; subst he; rfl
  | cons x l ih =>
    cases i with
    | zero =>
      rcases he with he | ⟨_, he⟩
      · simp at he
      · simp at he
        unfold plc
        rw [List.takeWhile_cons, if_neg (by simpa using he)]; rfl
    | succ i =>
      have h0 := h 0 (by omega)
      simp at h0
      unfold plc
      rw [List.takeWhile_cons, if_pos (by simpa using h0), List.length_cons]
      have := ih (i := i) (fun j hj => by simpa using h (j + 1) (by omega)) (by
        rcases he with he | ⟨he, hq⟩
        · exact .inl (by simpa using he)
        · exact .inr ⟨by simpa using he, by simpa using hq⟩)
      unfold plc at this
      omega


end Go.Proofs.Ytglohochdgeonaa.Md
