import Derived.Test.YtcomelbphdjnnaaGreatDoorJ06
import Derived.Laws.MakeOwn
import Derived.Test.YtcomelbphdjnnaaGreatDoorJ05
import Derived.Deep.RegionHeld3
import Derived.Deep.RegionWith
import Derived.BigQuiet
/-
  SCRIPT: numbersOf, formOf.
-/
namespace Go.Proofs.YtcomelbphdjnnaaGreatDoor.Sc
open Go.RowKit Mr
set_option linter.unusedVariables false
set_option linter.unusedSimpArgs false
set_option maxRecDepth 100000
/-- A slice that reads as words. -/
def WsAt (W : World) (a : Option Addr) (n : Nat) (ws : List (List UInt8)) : Prop :=
  n = ws.length ∧ (ws = [] ∨ ∃ b, a = some ⟨b, 0, none⟩ ∧ b < W.heap.size ∧ ∀ j x, ws[j]? = some x → W.cell? ⟨b, j, none⟩ = some (.string ⟨x.toArray⟩))
theorem WsAt.below {W W' : World} {a : Option Addr} {n : Nat} {ws : List (List UInt8)} (h : WsAt W a n ws) (hB : Below W.heap.size W W') : WsAt W' a n ws := by
  refine ⟨h.1, ?_⟩
  rcases h.2 with h | ⟨b, rfl, hl, hc⟩
  · exact .inl h
  · exact .inr ⟨b, rfl, Nat.lt_of_lt_of_le hl hB.size, fun j x hx => (hB.cell (p := ⟨b, _, none⟩) hl).trans (hc j x hx)⟩
theorem WsAt.of {W : World} {S : Nat → Prop} {a : Option Addr} {n cap : Nat} {ws : List (List UInt8)} (h : Has W S 9 1 (.slice a n cap) n (strs ws)) : WsAt W a n ws := by
  have hl := h.1
  simp only [strs, List.length_map, Nat.mul_one] at hl
  refine ⟨hl.symm, ?_⟩
  by_cases h0 : ws = []
  · exact .inl h0
  · obtain ⟨g, cap', hg, _, hgl, _⟩ := h.there (by rw [← hl]; exact List.length_pos_iff.2 h0)
    cases hg
    exact .inr ⟨g, rfl, hgl, fun j x hx => h.cells (g := g) rfl j _ (by simp [strs, hx])⟩
def ints (l : List Int) : List Value := l.map (Value.int .i64)
theorem info_i : ∃ i, Tryz.prog.info? 3 = some i ∧ i.zero = some (.int .i64 0) ∧ i.size = 1 ∧ i.bytes = 8 := by
  have h : (Tryz.prog.info? 3).map (fun i => (i.zero, i.size, i.bytes)) = some (some (.int .i64 0), 1, 8) := by kernel_rfl
  cases hi : Tryz.prog.info? 3 with
  | none => rw [hi] at h; cases h
  | some i => rw [hi] at h; simp at h; exact ⟨i, rfl, h.1, h.2.1, h.2.2⟩
theorem newsOne (w : World) (u : Value) (t : TypeId) {g : Nat} (hg : g = w.heap.size) : ∀ j v, [u][j]? = some v → (w.alloc (.cells #[u] t)).cell? ((⟨g, 0, none⟩ : Addr).add j) = some v := by
  intro j v hj
  subst hg
  match j, hj with
  | 0, hj => simp at hj; subst hj; simp [Addr.add]
theorem take_succ_of {α : Type} {l : List α} {i : Nat} {x : α} (h : l[i]? = some x) : l.take (i + 1) = l.take i ++ [x] := by
  rw [List.take_add_one, h]; rfl
theorem numsL_snoc (l : List (List UInt8)) (x : List UInt8) : numsL (l ++ [x]) = numsL l ++ (if numLike x = true then [numV x] else []) := by
  unfold numsL
  rw [List.filter_append, List.map_append]
  by_cases h : numLike x = true <;> simp [h]
theorem wholeL_snoc (l : List (List UInt8)) (x : List UInt8) : wholeL (l ++ [x]) = (wholeL l && (!(numLike x) || (numOk x).isSome)) := by
  unfold wholeL
  rw [List.filter_append, List.all_append]
  by_cases h : numLike x = true <;> simp [h]
set_option maxHeartbeats 8000000 in
theorem numbersOf_any (ws : List (List UInt8)) (a : Option Addr) (n c : Nat) (w : World) (E : Env w) (hW : WsAt w a n ws) (hn : n ≤ 1048576) (hsz : ∀ x ∈ ws, x.length ≤ 1048576) :
    Calls Tryz.prog 66 #[.slice a n c] w fun e w' => ∃ v, e = .returned (.tuple #[v, .bool (wholeL ws)]) ∧ Has w' (fun k => w.heap.size ≤ k) 3 1 v (numsL ws).length (ints (numsL ws)) ∧ Below w.heap.size w w' := by
  obtain ⟨ii, hii, hz0, hz1, hz2⟩ := info_i
  have hl := Mr.hid hW.1
  replace hW := Mr.hid hW
  replace E := Mr.hid E
  replace hsz := Mr.hid hsz
  go_enter Tryz.func66, Tryz.ntmps66
  go_upto_region 4 with fail
  go_loopg [4, 5, 12] n (fun gk s4 s5 s12 wr => ∃ (i : Nat) (v : Value), s4 = v ∧ s5 = .bool (wholeL (ws.take i)) ∧ s12 = .int .i64 (i : Int) ∧ i + gk = n ∧ Has wr (fun k => w.heap.size ≤ k) 3 1 v (numsL (ws.take i)).length (ints (numsL (ws.take i))) ∧ Below w.heap.size w wr ∧ (numsL (ws.take i)).length ≤ i)
  case atStart => exact ⟨0, _, rfl, rfl, rfl, by omega, Has.nil _ _ _ _, Below.refl _ _, by simp [numsL]⟩
  case round =>
    obtain ⟨i, v, rfl, rfl, rfl, hi, hh, hB, hnl⟩ := hrel
    obtain ⟨av, cv, rfl, hcv⟩ := hh.form
    by_cases hlt : i < n
    · have hli : i < ws.length := by have := hl.out; omega
      obtain ⟨x, hx⟩ : ∃ x, ws[i]? = some x := ⟨ws[i], List.getElem?_eq_getElem hli⟩
      obtain ⟨g, rfl, hg, hc⟩ := hW.out.2.resolve_left (by intro e; rw [e] at hli; simp at hli)
      have c0 : wr.cell? ⟨g, i, none⟩ = some (.string ⟨x.toArray⟩) := (hB.cell (p := ⟨g, i, none⟩) hg).trans (hc i x hx)
      have hgw : g < wr.heap.size := Nat.lt_of_lt_of_le hg hB.size
      have hxl := hsz.out x (List.mem_of_getElem? hx)
      have hts := take_succ_of hx
      have hns := numsL_snoc (ws.take i) x
      have hws := wholeL_snoc (ws.take i) x
      rw [← hts] at hns hws
      have L1 : Hid (∀ W, Calls Tryz.prog 81 #[.string ⟨x.toArray⟩] W fun e w' => e = .returned (.bool (numLike x)) ∧ w' = W) := fun W => by have := isNum_any ⟨x.toArray⟩ W; simpa using this
      have N1 : Hid (∀ W, Below w.heap.size w W → Calls Tryz.prog 83 #[.string ⟨x.toArray⟩] W fun e w' => e = .returned (.tuple #[.int .i64 (numV x), .bool (numOk x).isSome]) ∧ Below W.heap.size W w') := fun W hB => by have := numberOf_any ⟨x.toArray⟩ W (by simp [ByteArray.size]; omega) (E.out.below hB); simpa using this
      have hlI : (i : Int) < (n : Int) := by omega
      have dl : decide ((i : Int) < (n : Int)) = true := by simpa using hlI
      have hw : IntKind.i64.wrap ((i : Int) + 1) = (i : Int) + 1 := i64x _ (by omega) (by omega)
      have hi' := Mr.hid hi
      replace hns := Mr.hid hns
      replace hws := Mr.hid hws
      replace hh := Mr.hid hh
      replace hB := Mr.hid hB
      generalize hX : (⟨x.toArray⟩ : ByteArray) = X at *
      clear hc hx hts hli hi hX
      cases hk : numLike x with
      | false =>
        rw [hk] at L1
        have e1 : Hid (numsL (ws.take (i + 1)) = numsL (ws.take i)) := by show _ = _; rw [hns.out, hk]; simp
        have e2 : Hid (wholeL (ws.take (i + 1)) = wholeL (ws.take i)) := by show _ = _; rw [hws.out, hk]; simp
        clear hns hws hk
        generalize wholeL (ws.take i) = wb at *
        go_wp2_with (go_at_call 81; refine (L1.out _).mono ?_; clear L1; rintro e w9 ⟨rfl, hw9⟩; obtain rfl := hw9.symm)
        go_roundg (gk - 1)
        case measure => have := hi'.out; omega
        case rel => exact ⟨i + 1, _, rfl, by rw [e2.out], by simp, by have := hi'.out; omega, by rw [e1.out]; exact hh.out, hB.out, by rw [e1.out]; omega⟩
      | true =>
        rw [hk] at L1
        have e1 : Hid (numsL (ws.take (i + 1)) = numsL (ws.take i) ++ [numV x]) := by show _ = _; rw [hns.out, hk]; simp
        have e2 : Hid (wholeL (ws.take (i + 1)) = (wholeL (ws.take i) && (numOk x).isSome)) := by show _ = _; rw [hws.out, hk]; simp
        clear hns hws hk
        generalize hwb : wholeL (ws.take i) = wb at *
        generalize hok : (numOk x).isSome = ok at *
        generalize hnv : numV x = nv at *
        clear hwb hok hnv
        go_upto_region 8 with (first | (go_at_call 81; refine (L1.out _).mono ?_; clear L1; rintro e w9 ⟨rfl, hw9⟩; obtain rfl := hw9.symm) | (go_at_call 83; refine (N1.out _ hB.out).mono ?_; clear N1; rintro e w2 ⟨rfl, B2⟩))
        have hB2 : Hid (Below w.heap.size w w2) := hB.out.trans (B2.mono hB.out.size)
        have hh2 := Mr.hid (hh.out.below B2)
        generalize hq : (numsL (ws.take i)).length = q at *
        clear B2 c0 hgw
        go_upto_region 9 with (at_builtin; refine wpList_append_has _ rfl _ _ 87 rfl (fun k => w.heap.size ≤ k) 3 ii (.int .i64 0) 1 8 Tryz.underlying87 hii hz0 hz1 hz2 rfl _ _ _ rfl (hh2.out.alloc _) ⟨w2.heap.size, 0, none⟩ 1 1 [.int .i64 nv] rfl rfl (newsOne _ _ _ rfl) (by intro u hu; simp at hu; subst hu; rfl) (by decide) (by unfold maxLen; omega) (by omega) (by simp; have := hB2.out.size; omega) ?_; intro g2 cap2 w3 hh3 hgr hgg)
        have hB3 : Hid (Below w.heap.size w w3) := (hB2.out.alloc hB2.out.size _).grown hgr (by have := hB2.out.size; simp; omega) (fun k hk => (hh2.out.lt k hk).1)
        have hh4 : Hid (Has w3 (fun k => w.heap.size ≤ k) 3 1 (.slice (some ⟨g2, 0, none⟩) (q + 1) cap2) (numsL (ws.take (i + 1))).length (ints (numsL (ws.take (i + 1))))) := by
          show Has _ _ _ _ _ _ _
          have h1 : (numsL (ws.take (i + 1))).length = q + 1 := by rw [e1.out]; simp [hq]
          have h2 : ints (numsL (ws.take (i + 1))) = ints (numsL (ws.take i)) ++ [.int .i64 nv] := by rw [e1.out]; simp [ints]
          rw [h1, h2]
          exact hh3
        have hle : Hid ((numsL (ws.take (i + 1))).length ≤ i + 1) := by show _ ≤ _; rw [e1.out]; simp; omega
        clear hh3 hgr hgg hh hB hh2 hB2 e1
        cases wb with
        | false =>
          go_wp2
          go_roundg (gk - 1)
          case measure => have := hi'.out; omega
          case rel => exact ⟨i + 1, _, rfl, by rw [e2.out]; rfl, by simp, by have := hi'.out; omega, hh4.out, hB3.out, hle.out⟩
        | true =>
          go_wp2
          go_roundg (gk - 1)
          case measure => have := hi'.out; omega
          case rel => exact ⟨i + 1, _, rfl, by rw [e2.out]; rfl, by simp, by have := hi'.out; omega, hh4.out, hB3.out, hle.out⟩
    · have hfin : ws.take i = ws := List.take_of_length_le (by have := hl.out; omega)
      rw [hfin] at hh ⊢
      have dl : decide ((i : Int) < (n : Int)) = false := decide_eq_false (by omega)
      have dl2 : ¬ (i : Int) < (n : Int) := by omega
      replace hh := Mr.hid hh
      replace hB := Mr.hid hB
      clear hnl hlt hi hfin
      go_wp2
      go_ret2
      exact ⟨_, rfl, hh.out, hB.out⟩
theorem setBlk {W : World} {b : Nat} {cs : Array Value} {t : TypeId} {fr : Nat × Nat} (h : W.heap[b]? = some (.cells cs t fr)) (o : Nat) (v : Value) : (W.setCell ⟨b, o, none⟩ v).heap[b]? = some (.cells (cs.setIfInBounds o v) t fr) := by
  obtain ⟨hlt, hk⟩ := Array.getElem?_eq_some_iff.1 h
  show (W.heap.modify b _)[b]? = _
  rw [Array.getElem?_eq_getElem (by rw [Array.size_modify]; exact hlt), Array.getElem_modify_self, hk]
  rfl
def srow (n : Nat) : Array Value := Array.replicate n (.string ⟨#[]⟩)
theorem made_s (n : Nat) : madeCells (Value.string ⟨#[]⟩).cells n = srow n := by
  apply Array.ext
  · rw [size_madeCells]; simp [srow]
  · intro i h1 h2
    simp [madeCells, srow, Value.cells, Nat.mod_one]
theorem make_s (W : World) (n : Nat) (hn : n ≤ 1048576) : (Instr.makeSlice 58 (.int .i64 (n : Int)) (.int .i64 (n : Int))).run Tryz.prog W = .ok (.slice (some ⟨W.heap.size, 0, none⟩) n n) (W.alloc (.cells (srow n) 9 (0, 0))) := by
  obtain ⟨i0, hi, hz0, hz1, hz2⟩ := info_s
  have h := run_make (P := Tryz.prog) W 58 9 i0 _ Tryz.underlying58 hi hz0 .i64 .i64 (n : Int) (n : Int) (by omega) (Int.le_refl _) (by rw [hz2]; omega) (by omega)
  have e : (n : Int).toNat = n := by omega
  rw [e, hz1, Nat.mul_one, made_s] at h
  exact h
/-- The row of a form's words while it is filled. -/
structure Fo (w wr : World) (ws : List (List UInt8)) (i n : Nat) : Prop where
  bel : Below w.heap.size w wr
  row : ∃ arr, wr.heap[w.heap.size]? = some (.cells arr 9 (0, 0)) ∧ arr.size = n ∧ ∀ j x, j < i → ws[j]? = some x → arr[j]? = some (.string ⟨(nrm x).toArray⟩)
theorem Fo.put {w wr : World} {ws : List (List UInt8)} {i n : Nat} (h : Fo w wr ws i n) (v : Value) : Fo w (wr.setCell ⟨w.heap.size, i, none⟩ v) ws i n := by
  obtain ⟨arr, h1, h2, h3⟩ := h.row
  refine ⟨h.bel.setCell (p := ⟨w.heap.size, i, none⟩) (Nat.le_refl _) v, _, setBlk h1 i v, by simp [h2], fun j x hj hx => ?_⟩
  rw [Array.getElem?_setIfInBounds_ne (by omega)]
  exact h3 j x hj hx
theorem Fo.fill {w wr : World} {ws : List (List UInt8)} {i n : Nat} (h : Fo w wr ws i n) (hi : i < n) {x : List UInt8} (hx : ws[i]? = some x) {v : Value} (hv : v = .string ⟨(nrm x).toArray⟩) : Fo w (wr.setCell ⟨w.heap.size, i, none⟩ v) ws (i + 1) n := by
  obtain ⟨arr, h1, h2, h3⟩ := h.row
  refine ⟨h.bel.setCell (p := ⟨w.heap.size, i, none⟩) (Nat.le_refl _) v, _, setBlk h1 i v, by simp [h2], fun j y hj hy => ?_⟩
  by_cases e : j = i
  · subst e
    rw [hx] at hy
    cases hy
    rw [Array.getElem?_setIfInBounds_self_of_lt (by omega), hv]
  · rw [Array.getElem?_setIfInBounds_ne (by omega)]
    exact h3 j y (by omega) hy
theorem nrm_len (x : List UInt8) : (nrm x).length ≤ x.length + 1 := by unfold nrm; split <;> simp
theorem join_len : ∀ (l : List (List UInt8)), (Lib.join l [32]).length ≤ (l.map (fun x => x.length + 1)).sum
  | [] => by simp [Lib.join_nil]
  | [x] => by rw [Lib.join_one]; simp
  | x :: y :: r => by
    have := join_len (y :: r)
    have e : Lib.join (x :: y :: r) [32] = x ++ [32] ++ Lib.join (y :: r) [32] := by simp [Lib.join, List.intercalate]
    rw [e]
    simp at this ⊢
    omega
theorem sum_le {k m : Nat} : ∀ (l : List (List UInt8)), (∀ x ∈ l, x.length ≤ k) → ((l.map nrm).map (fun x => x.length + 1)).sum ≤ l.length * (k + 2)
  | [], _ => by simp
  | x :: r, h => by
    have h1 := sum_le (m := m) r (fun y hy => h y (List.mem_cons_of_mem _ hy))
    have h2 := nrm_len x
    have h3 := h x (List.mem_cons_self ..)
    simp only [List.map_cons, List.sum_cons, List.length_cons]
    rw [Nat.succ_mul]
    omega
set_option maxHeartbeats 8000000 in
theorem formOf_any (ws : List (List UInt8)) (a : Option Addr) (n c : Nat) (w : World) (hW : WsAt w a n ws) (hn : n ≤ 1048576) (hsz : ∀ x ∈ ws, x.length ≤ 1048576) :
    Calls Tryz.prog 65 #[.slice a n c] w fun e w' => e = .returned (.string ⟨(formL ws).toArray⟩) ∧ Below w.heap.size w w' := by
  have hl := Mr.hid hW.1
  have hmk := fun W => make_s W n hn
  replace hW := Mr.hid hW
  have hjl : Hid ((formL ws).length ≤ 140737488355328) := by
    show _ ≤ _
    have h1 := join_len (ws.map nrm)
    have h2 := sum_le (m := 0) ws hsz
    have h3 := hl.out
    have h4 : ws.length * (1048576 + 2) ≤ 1048576 * (1048576 + 2) := Nat.mul_le_mul_right _ (by omega)
    unfold formL
    omega
  clear hsz
  go_enter Tryz.func65, Tryz.ntmps65
  go_upto_region 3 with fail
  go_loopg [11] n (fun gk s11 wr => ∃ (i : Nat), s11 = .int .i64 (i : Int) ∧ i + gk = n ∧ Fo w wr ws i n)
  case atStart => exact ⟨0, rfl, by omega, ⟨(Below.refl _ _).alloc (Nat.le_refl _) _, _, new_at _ _ _ rfl, by simp [srow], fun j x hj => by omega⟩⟩
  case round =>
    obtain ⟨i, rfl, hi, hF⟩ := hrel
    by_cases hlt : i < n
    · have hli : i < ws.length := by have := hl.out; omega
      obtain ⟨x, hx⟩ : ∃ x, ws[i]? = some x := ⟨ws[i], List.getElem?_eq_getElem hli⟩
      obtain ⟨g, rfl, hg, hc⟩ := hW.out.2.resolve_left (by intro e; rw [e] at hli; simp at hli)
      have c0 : wr.cell? ⟨g, i, none⟩ = some (.string ⟨x.toArray⟩) := (hF.bel.cell (p := ⟨g, i, none⟩) hg).trans (hc i x hx)
      have hgw : g < wr.heap.size := Nat.lt_of_lt_of_le hg hF.bel.size
      obtain ⟨arr, ha1, ha2, -⟩ := hF.row
      have hsw : w.heap.size < wr.heap.size := (Array.getElem?_eq_some_iff.1 ha1).1
      have fz : wr.frozen? ⟨w.heap.size, i, none⟩ = false := by simp [World.frozen?, ha1]
      obtain ⟨z, hz⟩ : ∃ z, wr.cell? ⟨w.heap.size, i, none⟩ = some z := ⟨_, (cell_blk ha1 i).trans (Array.getElem?_eq_getElem (by omega))⟩
      have L1 : Hid (∀ W, Calls Tryz.prog 81 #[.string ⟨x.toArray⟩] W fun e w' => e = .returned (.bool (numLike x)) ∧ w' = W) := fun W => by have := isNum_any ⟨x.toArray⟩ W; simpa using this
      have hlI : (i : Int) < (n : Int) := by omega
      have dl : decide ((i : Int) < (n : Int)) = true := by simpa using hlI
      have hw : IntKind.i64.wrap ((i : Int) + 1) = (i : Int) + 1 := i64x _ (by omega) (by omega)
      have hne : g ≠ w.heap.size := by omega
      have hi' := Mr.hid hi
      have hx' := Mr.hid hx
      replace hF := Mr.hid hF
      clear hc hx hli hi ha1 ha2
      cases hk : numLike x with
      | false =>
        have hnr : Hid (nrm x = x) := by show _ = _; unfold nrm; rw [hk]; rfl
        have hF2 : Hid (Fo w (wr.setCell ⟨w.heap.size, i, none⟩ (.string ⟨x.toArray⟩)) ws (i + 1) n) := hF.out.fill hlt hx'.out (by rw [hnr.out])
        rw [hk] at L1
        clear hk hF hnr
        generalize (⟨x.toArray⟩ : ByteArray) = X at *
        go_wp2_with (go_at_call 81; refine (L1.out _).mono ?_; clear L1; rintro e w9 ⟨rfl, hw9⟩; obtain rfl := hw9.symm)
        go_roundg (gk - 1)
        case measure => have := hi'.out; omega
        case rel => exact ⟨i + 1, by simp, by have := hi'.out; omega, hF2.out⟩
      | true =>
        have hnr : Hid (nrm x = [48]) := by show _ = _; unfold nrm; rw [hk]; rfl
        have hF2 : Hid (∀ v, Fo w ((wr.setCell ⟨w.heap.size, i, none⟩ v).setCell ⟨w.heap.size, i, none⟩ (.string ⟨#[48]⟩)) ws (i + 1) n) := fun v => (hF.out.put v).fill hlt hx'.out (by rw [hnr.out])
        rw [hk] at L1
        clear hk hF hnr
        generalize (⟨x.toArray⟩ : ByteArray) = X at *
        go_wp2_with (go_at_call 81; refine (L1.out _).mono ?_; clear L1; rintro e w9 ⟨rfl, hw9⟩; obtain rfl := hw9.symm)
        go_roundg (gk - 1)
        case measure => have := hi'.out; omega
        case rel => exact ⟨i + 1, by simp, by have := hi'.out; omega, hF2.out _⟩
    · obtain rfl : i = n := by omega
      have dl : decide ((i : Int) < (i : Int)) = false := by simp
      obtain ⟨arr, ha1, ha2, ha3⟩ := hF.row
      have hB := Mr.hid hF.bel
      have J : Hid (Calls Tryz.prog 82 #[.slice (some ⟨w.heap.size, 0, none⟩) i i, .string ⟨#[32]⟩] wr fun e w' => e = .returned (.string ⟨(formL ws).toArray⟩) ∧ Below wr.heap.size wr w') := by
        show Calls _ _ _ _ _
        have hlw := hl.out
        have := Tryz.strings_Join w.heap.size 0 i (ws.map (fun x => ⟨(nrm x).toArray⟩)) ⟨#[32]⟩ wr (fun j x hx => by
          rw [Nat.zero_add, cell_blk ha1]
          rw [List.getElem?_map] at hx
          cases hy : ws[j]? with
          | none => rw [hy] at hx; cases hx
          | some y =>
            rw [hy] at hx
            cases hx
            exact ha3 j y (by have := (List.getElem?_eq_some_iff.1 hy).1; omega) hy) (Array.getElem?_eq_some_iff.1 ha1).1 (by simp; omega) (by simp; omega) (by
          have e : ((ws.map (fun x => (⟨(nrm x).toArray⟩ : ByteArray))).map (·.data.toList)) = ws.map nrm := by simp
          rw [e]; exact hjl.out)
        have e : ((ws.map (fun x => (⟨(nrm x).toArray⟩ : ByteArray))).map (·.data.toList)) = ws.map nrm := by simp
        rw [e] at this
        simp only [List.length_map] at this
        rw [← hlw] at this
        exact this
      clear hF ha1 ha2 ha3 hi hlt
      go_wp2_with (go_at_call 82; refine J.out.mono ?_; clear J; rintro e w2 ⟨rfl, B2⟩; replace B2 := Mr.hid B2)
      go_ret
      exact ⟨rfl, hB.out.trans (B2.out.mono hB.out.size)⟩
end Go.Proofs.YtcomelbphdjnnaaGreatDoor.Sc
/-
  SCRIPT: stepOf, tells, form, callLine, stepsAhead, nextLine.
-/
namespace Go.Proofs.YtcomelbphdjnnaaGreatDoor.Sc
open Go.RowKit Mr
set_option linter.unusedVariables false
set_option linter.unusedSimpArgs false
set_option maxRecDepth 100000
def mvV (m : Mv) : Value := .agg #[.int .i64 m.th, .int .i64 m.op, .int .i64 m.arg, .int .i64 m.data]
theorem stepOf_any (t : Int) (w : World) : Calls Tryz.prog 60 #[.int .i64 t] w fun e w' => e = .returned (.agg #[.int .i64 t, .int .i64 0, .int .i64 0, .int .i64 0]) ∧ Below w.heap.size w w' := by
  go_enter Tryz.func60, Tryz.ntmps60
  go_wp2
  refine bodyPost_ret (v := .agg #[.int .i64 t, .int .i64 0, .int .i64 0, .int .i64 0]) (by simp [results, Tryz.results60, go_sem]) rfl ⟨rfl, ?_⟩
  exact (Below.refl _ _).alloc (Nat.le_refl _) _
def telB (tk ar da : Int) : Bool := (decide (0 < tk) || ar == 0) && (decide (1 < tk) || da == 0)
set_option maxHeartbeats 2000000 in
theorem tells_any (o : Int) (wd : ByteArray) (tk th op ar da : Int) (w : World) :
    Calls Tryz.prog 62 #[.agg #[.int .i64 o, .string wd, .int .i64 tk], .agg #[.int .i64 th, .int .i64 op, .int .i64 ar, .int .i64 da]] w fun e w' => e = .returned (.bool (telB tk ar da)) ∧ Below w.heap.size w w' := by
  have key : ∀ (b1 b2 b3 b4 : Bool), decide (0 < tk) = b1 → (ar == 0) = b2 → decide (1 < tk) = b3 → (da == 0) = b4 → Calls Tryz.prog 62 #[.agg #[.int .i64 o, .string wd, .int .i64 tk], .agg #[.int .i64 th, .int .i64 op, .int .i64 ar, .int .i64 da]] w fun e w' => e = .returned (.bool ((b1 || b2) && (b3 || b4))) ∧ Below w.heap.size w w' := by
    intro b1 b2 b3 b4 e1 e2 e3 e4
    have e1' : decide (tk > 0) = b1 := e1
    have e3' : decide (tk > 1) = b3 := e3
    cases b1 <;> cases b2 <;> cases b3 <;> cases b4 <;> (
      go_enter Tryz.func62, Tryz.ntmps62
      go_wp2
      go_ret
      exact ⟨rfl, ((Below.refl _ _).alloc (Nat.le_refl _) _).alloc (by simp) _⟩)
  exact key _ _ _ _ rfl rfl rfl rfl
def fWd (wd : List UInt8) (tk : Nat) : List UInt8 := [48, 32] ++ wd ++ Lib.repeatL [32, 48] tk
set_option maxHeartbeats 2000000 in
theorem form_any (o : Int) (wd : ByteArray) (tk : Nat) (w : World) (h1 : wd.size ≤ 1000) (h2 : tk ≤ 1000) :
    Calls Tryz.prog 63 #[.agg #[.int .i64 o, .string wd, .int .i64 (tk : Int)]] w fun e w' => e = .returned (.string ⟨(fWd wd.data.toList tk).toArray⟩) ∧ Below w.heap.size w w' := by
  have R : Hid (∀ w, Calls Tryz.prog 76 #[.string ⟨#[32, 48]⟩, .int .i64 (tk : Int)] w fun e w' => e = .returned (.string ⟨(Lib.repeatL [32, 48] tk).toArray⟩) ∧ Below w.heap.size w w') := fun w => Tryz.strings_Repeat ⟨#[32, 48]⟩ tk w (by omega) (by show 2 * tk ≤ _; omega)
  have hl : (⟨(Lib.repeatL [32, 48] tk).toArray⟩ : ByteArray).size ≤ 2000 := by
    have : (Lib.repeatL [32, 48] tk).length = 2 * tk := by rw [Lib.repeatL_length]; simp; omega
    simp [ByteArray.size]; omega
  have hr : Hid ((⟨#[48, 32]⟩ ++ wd) ++ ⟨(Lib.repeatL [32, 48] tk).toArray⟩ = (⟨(fWd wd.data.toList tk).toArray⟩ : ByteArray)) := by
    apply ByteArray.ext
    simp [fWd]
  generalize (⟨(Lib.repeatL [32, 48] tk).toArray⟩ : ByteArray) = T at *
  have k1 : ¬ 9223372036854775807 < 2 + wd.size := by omega
  have k2 : ¬ 9223372036854775807 < 2 + wd.size + T.size := by omega
  go_enter Tryz.func63, Tryz.ntmps63
  go_upto_region 1 with fail
  go_region_held3 (fun W => W.cell? ⟨w.heap.size, 0, none⟩ = some (.int .i64 o) ∧ W.cell? ⟨w.heap.size, 1, none⟩ = some (.string wd) ∧ W.cell? ⟨w.heap.size, 2, none⟩ = some (.int .i64 (tk : Int))) (simp [*, go_sem])
    (first | (go_at_call 76; refine (R.out _).mono ?_; clear R; rintro e w3 ⟨rfl, B3⟩; have E3 : Below w.heap.size w w3 := (((Below.refl _ _).alloc (Nat.le_refl _) _).drew).trans (B3.mono (by simp)); have c0 := (B3.cell (p := ⟨w.heap.size, 0, none⟩) (by simp)); have c1 := (B3.cell (p := ⟨w.heap.size, 1, none⟩) (by simp)); have c2 := (B3.cell (p := ⟨w.heap.size, 2, none⟩) (by simp)); simp at c0 c1 c2; replace E3 := Mr.hid E3; clear B3))
  all_goals (go_wp2; go_ret; exact ⟨by rw [← hr.out]; rfl, E3.out⟩)
theorem rowOf_some {op : Int} {k : Nat} (h : rowOf op = some k) : k < 21 ∧ opA k = op := by
  unfold rowOf at h
  have h1 := List.find?_some h
  have h2 := List.mem_of_find?_eq_some h
  exact ⟨by simpa using h2, by simpa using h1⟩
theorem rowOf_none {op : Int} (h : rowOf op = none) : ∀ j, j < 21 → (opA j == op) = false := by
  unfold rowOf at h
  rw [List.find?_eq_none] at h
  intro j hj
  have := h j (List.mem_range.2 hj)
  simpa using this
theorem fCall_ok (k : Nat) (hk : k < 21) : zer (fCall k) ≤ 3 ∧ (∀ x ∈ fCall k, x.toNat < 128) ∧ (fCall k).length ≤ 1000 ∧ (wdA k).size ≤ 1000 ∧ 0 ≤ tkA k ∧ tkA k ≤ 2 := by
  have := all_below (P := fun k => decide (zer (fCall k) ≤ 3) && (fCall k).all (fun x => decide (x.toNat < 128)) && decide ((fCall k).length ≤ 1000) && decide ((wdA k).size ≤ 1000) && decide (0 ≤ tkA k) && decide (tkA k ≤ 2)) (n := 21) (by decide +kernel) hk
  simp only [Bool.and_eq_true, decide_eq_true_eq, List.all_eq_true] at this
  obtain ⟨⟨⟨⟨⟨h1, h2⟩, h3⟩, h4⟩, h5⟩, h6⟩ := this
  exact ⟨h1, h2, h3, h4, h5, h6⟩
theorem fOp_ok : zer fOp ≤ 4 ∧ (∀ x ∈ fOp, x.toNat < 128) ∧ fOp.length ≤ 1000 := by
  refine ⟨by decide, ?_, by decide⟩
  have : fOp.all (fun x => decide (x.toNat < 128)) = true := by decide
  intro x hx
  simpa using List.all_eq_true.1 this x hx
/-- Numbers that a call has just laid. -/
theorem left_new {w' : World} {g : Nat} (ns : List Int) {vs : Array Value} {t : TypeId} {z : Nat × Nat} (hw : w'.heap[g]? = some (.cells vs t z)) (hv : vs = (ns.map (Value.int .i64)).toArray) : Left w'.heap.size w' (some ⟨g, 0, none⟩) ns.length ns.length ns := by
  subst hv
  have hlt := (Array.getElem?_eq_some_iff.1 hw).1
  refine ⟨⟨rfl, ?_⟩, Nat.le_refl _, ?_⟩
  · by_cases h : ns = []
    · exact .inl h
    · refine .inr ⟨_, 0, rfl, hlt, fun j x hx => ?_⟩
      rw [Nat.zero_add, cell_blk hw]
      simp [hx]
  · rintro b off hb
    cases hb
    exact hlt
def MvB (m : Mv) : Prop := Bd m.th ∧ Bd m.op ∧ Bd m.arg ∧ Bd m.data
end Go.Proofs.YtcomelbphdjnnaaGreatDoor.Sc
