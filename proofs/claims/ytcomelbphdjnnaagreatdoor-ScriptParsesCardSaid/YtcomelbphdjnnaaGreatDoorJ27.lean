import Derived.Test.YtcomelbphdjnnaaGreatDoorJ19
import Derived.Test.YtcomelbphdjnnaaGreatDoorJ20
import Derived.Test.YtcomelbphdjnnaaGreatDoorJ26
/-
  SCRIPT: the document's Begins, Number, faults, times.
-/
namespace Go.Proofs.YtcomelbphdjnnaaGreatDoor.Sc
open Go.RowKit Mr
set_option linter.unusedVariables false
set_option linter.unusedSimpArgs false
set_option maxRecDepth 100000
/-- A slice that reads as words, wherever it begins. -/
def WsO (W : World) (a : Option Addr) (n : Nat) (ws : List (List UInt8)) : Prop :=
  n = ws.length ∧ (ws = [] ∨ ∃ b o, a = some ⟨b, o, none⟩ ∧ b < W.heap.size ∧ ∀ j x, ws[j]? = some x → W.cell? ⟨b, o + j, none⟩ = some (.string ⟨x.toArray⟩))
theorem WsO.below {W W' : World} {a : Option Addr} {n : Nat} {ws : List (List UInt8)} (h : WsO W a n ws) (hB : Below W.heap.size W W') : WsO W' a n ws := by
  refine ⟨h.1, ?_⟩
  rcases h.2 with h | ⟨b, o, rfl, hl, hc⟩
  · exact .inl h
  · exact .inr ⟨b, o, rfl, Nat.lt_of_lt_of_le hl hB.size, fun j x hx => (hB.cell (p := ⟨b, _, none⟩) hl).trans (hc j x hx)⟩
theorem WsO.of {W : World} {a : Option Addr} {n : Nat} {ws : List (List UInt8)} (h : WsAt W a n ws) : WsO W a n ws := by
  refine ⟨h.1, ?_⟩
  rcases h.2 with h | ⟨b, rfl, hl, hc⟩
  · exact .inl h
  · exact .inr ⟨b, 0, rfl, hl, fun j x hx => by rw [Nat.zero_add]; exact hc j x hx⟩
/-- What is behind the first k words. -/
theorem WsO.drop {W : World} {b o n : Nat} {ws : List (List UInt8)} (h : WsO W (some ⟨b, o, none⟩) n ws) (k : Nat) (hk : k ≤ n) (a' : Option Addr) (ha : k < n → a' = some ⟨b, o + k, none⟩) : WsO W a' (n - k) (ws.drop k) := by
  have hn := h.1
  refine ⟨by simp; omega, ?_⟩
  rcases h.2 with e | ⟨b', o', e, hl, hc⟩
  · left; rw [e]; simp
  · cases e
    by_cases hlt : k < n
    · exact .inr ⟨b, o + k, ha hlt, hl, fun j x hx => by rw [List.getElem?_drop] at hx; rw [Nat.add_assoc]; exact hc _ _ hx⟩
    · left; exact List.drop_of_length_le (by omega)
def hd (t : ByteArray) : Bool := if h : 0 < t.size then decide (48 ≤ t[0].toNat) && decide (t[0].toNat ≤ 57) else false
theorem hd_list (t : ByteArray) : hd t = (match t.data.toList with | [] => false | c :: _ => decide (48 ≤ c.toNat) && decide (c.toNat ≤ 57)) := by
  unfold hd
  have hlen : t.data.toList.length = t.size := by simp
  by_cases h : 0 < t.size
  · rw [dif_pos h]
    have := get_drop t 0 h
    rw [List.drop_zero] at this
    rw [this]
  · rw [dif_neg h, List.length_eq_zero_iff.1 (by omega : t.data.toList.length = 0)]
theorem like_minus (s : ByteArray) (h : 0 < s.size) (h45 : s[0].toNat = 45) : numLike s.data.toList = hd (s.extract 1 s.size) := by
  have e := get_drop s 0 h
  rw [List.drop_zero] at e
  have hlen : s.data.toList.length = s.size := by simp
  have e45 : s[0] = 45 := UInt8.toNat_inj.1 (by simpa using h45)
  rw [hd_list, ext_list, ← hlen, List.take_length]
  unfold numLike
  have e2 : Lib.trimPrefix s.data.toList [45] = s.data.toList.drop 1 := by rw [e, e45]; rfl
  rw [e2]
  cases s.data.toList.drop 1 <;> rfl
theorem like_else (s : ByteArray) (h : 0 < s.size → ∀ h : 0 < s.size, s[0].toNat ≠ 45) : numLike s.data.toList = hd s := by
  rw [hd_list]
  unfold numLike
  have e2 : Lib.trimPrefix s.data.toList [45] = s.data.toList := by
    have hlen : s.data.toList.length = s.size := by simp
    by_cases h0 : 0 < s.size
    · have e := get_drop s 0 h0
      rw [List.drop_zero] at e
      have hne : s[0] ≠ 45 := fun e2 => h h0 h0 (by rw [e2]; rfl)
      rw [e]
      simp [Lib.trimPrefix, Lib.hasPrefix, hne, Ne.symm hne]
    · rw [List.length_eq_zero_iff.1 (by omega : s.data.toList.length = 0)]; rfl
  rw [e2]
  cases s.data.toList <;> rfl
set_option maxHeartbeats 4000000 in
theorem Begins_any (s : ByteArray) (w : World) (hs : s.size ≤ 281474976710656) : Calls Tryz.prog 55 #[.string s] w fun e w' => e = .returned (.bool (numLike s.data.toList)) ∧ w' = w := by
  have hdw : ∀ (t : ByteArray) (b1 b2 : Bool) (h : 0 < t.size), decide (48 ≤ t[0].toNat) = b1 → decide (t[0].toNat ≤ 57) = b2 → hd t = (b1 && b2) := fun t b1 b2 h e1 e2 => by unfold hd; rw [dif_pos h, e1, e2]
  have hdn : ∀ t : ByteArray, t.size = 0 → hd t = false := fun t h => by unfold hd; rw [dif_neg (by omega)]
  by_cases h0 : 0 < s.size
  · have d0 : decide ((0 : Int) < (s.size : Int)) = true := decide_eq_true (by omega)
    have d1 : (0 : Int) < (s.size : Int) := by omega
    have d2 : decide (0 < s.size) = true := decide_eq_true h0
    by_cases h45 : s[0].toNat = 45
    · rw [like_minus s h0 h45]
      have q : ((s[0].toNat : Int) == 45) = true := by rw [h45]; rfl
      have z1 : (1 : Int) ≤ (s.size : Int) := by omega
      have z2 : 1 ≤ s.size := by omega
      have hsz : (s.extract 1 s.size).size = s.size - 1 := by simp
      by_cases h1 : 1 < s.size
      · have hT : 0 < (s.extract 1 s.size).size := by omega
        obtain ⟨b1, e1⟩ : ∃ b, decide (48 ≤ (s.extract 1 s.size)[0].toNat) = b := ⟨_, rfl⟩
        obtain ⟨b2, e2⟩ : ∃ b, decide ((s.extract 1 s.size)[0].toNat ≤ 57) = b := ⟨_, rfl⟩
        rw [hdw _ b1 b2 hT e1 e2]
        have f1 : decide ((48 : Int) ≤ ((s.extract 1 s.size)[0].toNat : Int)) = b1 := by rw [← e1]; congr 1; exact propext ⟨fun h => by omega, fun h => by omega⟩
        have f2 : decide (((s.extract 1 s.size)[0].toNat : Int) ≤ 57) = b2 := by rw [← e2]; congr 1; exact propext ⟨fun h => by omega, fun h => by omega⟩
        have g0 : decide ((0 : Int) < ((s.extract 1 s.size).size : Int)) = true := decide_eq_true (by omega)
        have g1 : (0 : Int) < ((s.extract 1 s.size).size : Int) := by omega
        have g2 : decide (0 < (s.extract 1 s.size).size) = true := decide_eq_true hT
        have g3 : decide ((0 : Int) < ((s.size - 1 : Nat) : Int)) = true := decide_eq_true (by omega)
        have g4 : (0 : Int) < ((s.size - 1 : Nat) : Int) := by omega
        clear hdw hdn e1 e2 hsz
        cases b1 <;> cases b2 <;> (
          go_enter Tryz.func55, Tryz.ntmps55
          go_wp2
          go_ret
          exact ⟨rfl, rfl⟩)
      · have hT : (s.extract 1 s.size).size = 0 := by omega
        rw [hdn _ hT]
        have g0 : decide ((0 : Int) < ((s.extract 1 s.size).size : Int)) = false := decide_eq_false (by omega)
        have g1 : ¬ (0 : Int) < ((s.extract 1 s.size).size : Int) := by omega
        have g3 : decide ((0 : Int) < ((s.size - 1 : Nat) : Int)) = false := decide_eq_false (by omega)
        have g4 : ¬ (0 : Int) < ((s.size - 1 : Nat) : Int) := by omega
        clear hdw hdn hsz
        go_enter Tryz.func55, Tryz.ntmps55
        go_wp2
        go_ret
        exact ⟨rfl, rfl⟩
    · rw [like_else s (fun _ _ => h45)]
      have q : ((s[0].toNat : Int) == 45) = false := beq_eq_false_iff_ne.2 (by omega)
      obtain ⟨b1, e1⟩ : ∃ b, decide (48 ≤ s[0].toNat) = b := ⟨_, rfl⟩
      obtain ⟨b2, e2⟩ : ∃ b, decide (s[0].toNat ≤ 57) = b := ⟨_, rfl⟩
      rw [hdw _ b1 b2 h0 e1 e2]
      have f1 : decide ((48 : Int) ≤ (s[0].toNat : Int)) = b1 := by rw [← e1]; congr 1; exact propext ⟨fun h => by omega, fun h => by omega⟩
      have f2 : decide ((s[0].toNat : Int) ≤ 57) = b2 := by rw [← e2]; congr 1; exact propext ⟨fun h => by omega, fun h => by omega⟩
      clear hdw hdn e1 e2 h45
      cases b1 <;> cases b2 <;> (
        go_enter Tryz.func55, Tryz.ntmps55
        go_wp2
        go_ret
        exact ⟨rfl, rfl⟩)
  · rw [like_else s (fun h => absurd h h0), hdn s (by omega)]
    have d0 : decide ((0 : Int) < (s.size : Int)) = false := decide_eq_false (by omega)
    have d1 : ¬ (0 : Int) < (s.size : Int) := by omega
    clear hdw hdn
    go_enter Tryz.func55, Tryz.ntmps55
    go_wp2
    go_ret
    exact ⟨rfl, rfl⟩
end Go.Proofs.YtcomelbphdjnnaaGreatDoor.Sc
/-
  SCRIPT: the document's Number, faults, times.
-/
namespace Go.Proofs.YtcomelbphdjnnaaGreatDoor.Sc
open Go.RowKit Mr
set_option linter.unusedVariables false
set_option linter.unusedSimpArgs false
set_option maxRecDepth 100000
theorem numOk_iff (s : ByteArray) (v : Int) : numOk s.data.toList = some v ↔ (Bd v ∧ s = ito v) := by
  constructor
  · intro h
    refine ⟨numOk_bd h, ?_⟩
    unfold numOk at h
    split at h
    · split at h
      · rename_i h2
        cases h
        exact ba_ext (by simp [ito, h2])
      · cases h
    · cases h
  · rintro ⟨hb, rfl⟩
    have := numOk_itoa v hb
    simpa [ito] using this
set_option maxHeartbeats 4000000 in
theorem rNumber_any (s : ByteArray) (w : World) (hs : s.size ≤ 281474976710656) : Calls Tryz.prog 39 #[.string s] w fun e w' => ∃ y : Int, e = .returned (.tuple #[.int .i64 y, .bool (numOk s.data.toList).isSome]) ∧ ((numOk s.data.toList).isSome = true → y = numV s.data.toList) ∧ w' = w := by
  have P := Mr.hid (fun W => St.parse_num 11 s W hs (by decide) (by decide) (by decide))
  have sh : ∀ x, St.shw 11 x = (St.ito (wrap64 x), 0) := fun x => rfl
  have fin : Hid (∀ e, St.PsR 11 s e → ∃ x : Int, e = .returned (.tuple #[.int .u64 x, .bool (numOk s.data.toList).isSome]) ∧ ((numOk s.data.toList).isSome = true → wrap64 x = numV s.data.toList)) := by
    intro e h
    rcases h with ⟨x, x0, x1, hx, he⟩ | ⟨hn, y, he⟩
    · rw [sh] at hx
      have hs' : s = ito (wrap64 x) := (congrArg Prod.fst hx).symm
      have hb : Bd (wrap64 x) := by unfold Bd wrap64; omega
      have hk := (numOk_iff s (wrap64 x)).2 ⟨hb, hs'⟩
      refine ⟨x, ?_, fun _ => by unfold numV; rw [hk]; rfl⟩
      rw [hk]; exact he
    · cases hk : numOk s.data.toList with
      | none => exact ⟨y, he, fun h => by simp at h⟩
      | some v =>
        obtain ⟨hb, hs'⟩ := (numOk_iff s v).1 hk
        exfalso
        have hb' := hb
        unfold Bd at hb'
        by_cases hv : 0 ≤ v
        · refine hn v hv (by omega) ?_
          rw [sh, show wrap64 v = v by unfold wrap64; omega]
          exact congrArg (·, (0 : Int)) hs'.symm
        · refine hn (v + 18446744073709551616) (by omega) (by omega) ?_
          rw [sh, show wrap64 (v + 18446744073709551616) = v by unfold wrap64; omega]
          exact congrArg (·, (0 : Int)) hs'.symm
  generalize numV s.data.toList = nv at *
  generalize (numOk s.data.toList).isSome = ok at *
  clear sh
  go_enter Tryz.func39, Tryz.ntmps39
  go_wp2_with (go_at_call 56; refine (P.out _).mono ?_; clear P; rintro e w1 ⟨hp, hw⟩; obtain rfl := hw.symm; obtain ⟨x, rfl, hx⟩ := fin.out _ hp; replace hx := Mr.hid hx; clear hp fin)
  go_ret2
  exact ⟨_, rfl, hx.out, rfl⟩
set_option maxHeartbeats 8000000 in
theorem faults_any (ts : List (List UInt8)) (a : Option Addr) (n c : Nat) (w : World) (hW : WsO w a n ts) (hn : n ≤ 1048576) (hsz : ∀ x ∈ ts, x.length ≤ 1048576) :
    Calls Tryz.prog 38 #[.slice a n c] w fun e w' => e = .returned (.int .i64 (fltL ts)) ∧ w' = w := by
  have hl := Mr.hid hW.1
  have BG : Hid (∀ x ∈ ts, ∀ W, Calls Tryz.prog 55 #[.string ⟨x.toArray⟩] W fun e w' => e = .returned (.bool (numLike x)) ∧ w' = W) := fun x hx W => by have := Begins_any ⟨x.toArray⟩ W (by simp [ByteArray.size]; have := hsz x hx; omega); simpa using this
  have NB : Hid (∀ x ∈ ts, ∀ W, Calls Tryz.prog 39 #[.string ⟨x.toArray⟩] W fun e w' => ∃ y : Int, e = .returned (.tuple #[.int .i64 y, .bool (numOk x).isSome]) ∧ ((numOk x).isSome = true → y = numV x) ∧ w' = W) := fun x hx W => by have := rNumber_any ⟨x.toArray⟩ W (by simp [ByteArray.size]; have := hsz x hx; omega); simpa using this
  replace hW := Mr.hid hW
  clear hsz
  go_enter Tryz.func38, Tryz.ntmps38
  go_upto_region 2 with fail
  go_loopg [11] n (fun gk s11 wr => ∃ i : Nat, s11 = .int .i64 (i : Int) ∧ i + gk = n ∧ (ts.take i).all numLike = true ∧ w = wr)
  case atStart => exact ⟨0, rfl, by omega, rfl, rfl⟩
  case round =>
    obtain ⟨i, rfl, hi, hall, hww⟩ := hrel
    obtain rfl := hww
    by_cases hlt : i < n
    · have hli : i < ts.length := by have := hl.out; omega
      obtain ⟨x, hx⟩ : ∃ x, ts[i]? = some x := ⟨ts[i], List.getElem?_eq_getElem hli⟩
      obtain ⟨g, o, rfl, hg, hc⟩ := hW.out.2.resolve_left (by intro e; rw [e] at hli; simp at hli)
      have c0 := hc i x hx
      have L1 := Mr.hid (BG.out x (List.mem_of_getElem? hx))
      have hts := take_succ_of hx
      have hmem := List.mem_of_getElem? hx
      have hlI : (i : Int) < (n : Int) := by omega
      have dl : decide ((i : Int) < (n : Int)) = true := by simpa using hlI
      have hw : IntKind.i64.wrap ((i : Int) + 1) = (i : Int) + 1 := i64x _ (by omega) (by omega)
      have hi' := Mr.hid hi
      have hnext : Hid (numLike x = true → (ts.take (i + 1)).all numLike = true) := fun h => by rw [hts, List.all_append, hall]; simp [h]
      have hbad : Hid (numLike x = false → fltL ts = 170) := fun h => by
        unfold fltL
        rw [if_neg]
        intro ha
        have := List.all_eq_true.1 ha x hmem
        rw [h] at this; cases this
      replace hW := Mr.hid hW.out
      generalize hX : (⟨x.toArray⟩ : ByteArray) = X at *
      clear hc hx hts hli hi hX hall hmem BG NB
      cases hk : numLike x with
      | true =>
        rw [hk] at L1
        go_wp2_with (go_at_call 55; refine (L1.out _).mono ?_; clear L1; rintro e w9 ⟨rfl, hw9⟩; obtain rfl := hw9.symm)
        go_roundg (gk - 1)
        case measure => have := hi'.out; omega
        case rel => exact ⟨i + 1, by simp, by have := hi'.out; omega, hnext.out hk, rfl⟩
      | false =>
        rw [hk] at L1
        go_wp2_with (go_at_call 55; refine (L1.out _).mono ?_; clear L1; rintro e w9 ⟨rfl, hw9⟩; obtain rfl := hw9.symm)
        go_ret
        exact ⟨by rw [hbad.out hk]; rfl, rfl⟩
    · have hfin : ts.take i = ts := List.take_of_length_le (by have := hl.out; omega)
      rw [hfin] at hall
      have dl : decide ((i : Int) < (n : Int)) = false := decide_eq_false (by omega)
      have dl2 : ¬ (i : Int) < (n : Int) := by omega
      replace hall := Mr.hid hall
      clear hlt hi hfin BG
      go_upto_region 8 with fail
      clear dl dl2
      go_loopg [21] n (fun gk s21 wr => ∃ i : Nat, s21 = .int .i64 (i : Int) ∧ i + gk = n ∧ (ts.take i).all (fun x => (numOk x).isSome) = true ∧ w = wr)
      case atStart => exact ⟨0, rfl, by omega, rfl, rfl⟩
      case round =>
        obtain ⟨i, rfl, hi, hall2, hww⟩ := hrel
        obtain rfl := hww
        by_cases hlt : i < n
        · have hli : i < ts.length := by have := hl.out; omega
          obtain ⟨x, hx⟩ : ∃ x, ts[i]? = some x := ⟨ts[i], List.getElem?_eq_getElem hli⟩
          obtain ⟨g, o, rfl, hg, hc⟩ := hW.out.2.resolve_left (by intro e; rw [e] at hli; simp at hli)
          have c0 := hc i x hx
          have L1 := Mr.hid (NB.out x (List.mem_of_getElem? hx))
          have hts := take_succ_of hx
          have hmem := List.mem_of_getElem? hx
          have hlI : (i : Int) < (n : Int) := by omega
          have dl : decide ((i : Int) < (n : Int)) = true := by simpa using hlI
          have hw : IntKind.i64.wrap ((i : Int) + 1) = (i : Int) + 1 := i64x _ (by omega) (by omega)
          have hi' := Mr.hid hi
          have hnext : Hid ((numOk x).isSome = true → (ts.take (i + 1)).all (fun x => (numOk x).isSome) = true) := fun h => by rw [hts, List.all_append, hall2]; simp [h]
          have hbad : Hid ((numOk x).isSome = false → fltL ts = 171) := fun h => by
            unfold fltL
            rw [if_pos hall.out, if_neg]
            intro ha
            have := List.all_eq_true.1 ha x hmem
            rw [h] at this; cases this
          replace hW := Mr.hid hW.out
          generalize hX : (⟨x.toArray⟩ : ByteArray) = X at *
          generalize numV x = nv at *
          generalize (numOk x).isSome = ok at *
          clear hc hx hts hli hi hX hall2 hmem NB
          cases ok with
          | true =>
            go_wp2_with (go_at_call 39; refine (L1.out _).mono ?_; clear L1; rintro e w9 ⟨y, rfl, hy, hw9⟩; obtain rfl := hw9.symm; clear hy)
            go_roundg (gk - 1)
            case measure => have := hi'.out; omega
            case rel => exact ⟨i + 1, by simp, by have := hi'.out; omega, hnext.out (by trivial), rfl⟩
          | false =>
            go_wp2_with (go_at_call 39; refine (L1.out _).mono ?_; clear L1; rintro e w9 ⟨y, rfl, hy, hw9⟩; obtain rfl := hw9.symm; clear hy)
            go_ret
            exact ⟨by rw [hbad.out (by trivial)]; rfl, rfl⟩
        · have hfin : ts.take i = ts := List.take_of_length_le (by have := hl.out; omega)
          rw [hfin] at hall2
          have dl : decide ((i : Int) < (n : Int)) = false := decide_eq_false (by omega)
          have dl2 : ¬ (i : Int) < (n : Int) := by omega
          have hok : Hid (fltL ts = 0) := by show _ = _; unfold fltL; rw [if_pos hall.out, if_pos hall2]
          clear hlt hi hfin NB hall2
          go_wp2
          go_ret
          exact ⟨by rw [hok.out]; rfl, rfl⟩
set_option maxHeartbeats 8000000 in
theorem times_any (x : List UInt8) (a : Option Addr) (c : Nat) (w : World) (hW : WsO w a 1 [x]) (hsz : x.length ≤ 1048576) :
    Calls Tryz.prog 40 #[.slice a 1 c] w fun e w' => (fltL [x] ≠ 0 → e = .returned (.tuple #[.int .i64 0, .int .i64 (fltL [x])])) ∧ (fltL [x] = 0 → (numV x < 1 ∨ 65536 < numV x → e = .returned (.tuple #[.int .i64 0, .int .i64 2])) ∧ (1 ≤ numV x ∧ numV x ≤ 65536 → e = .returned (.tuple #[.int .i64 (numV x), .int .i64 0]))) ∧ w' = w := by
  have FL := Mr.hid (faults_any [x] a 1 c w hW (by omega) (by intro y hy; simp at hy; subst hy; exact hsz))
  have NB : Hid (∀ W, Calls Tryz.prog 39 #[.string ⟨x.toArray⟩] W fun e w' => ∃ y : Int, e = .returned (.tuple #[.int .i64 y, .bool (numOk x).isSome]) ∧ ((numOk x).isSome = true → y = numV x) ∧ w' = W) := fun W => by have := rNumber_any ⟨x.toArray⟩ W (by simp [ByteArray.size]; omega); simpa using this
  obtain ⟨g, o, rfl, hg, hc⟩ := hW.2.resolve_left (by simp)
  have c0 := hc 0 x rfl
  rw [Nat.add_zero] at c0
  have hbd := numV_bd x
  have hok : fltL [x] = 0 → (numOk x).isSome = true := fun h => by
    unfold fltL at h
    split at h
    · split at h
      · rename_i h2; simpa using h2
      · omega
    · omega
  generalize (⟨x.toArray⟩ : ByteArray) = X at *
  by_cases h0 : fltL [x] = 0
  · have ok1 := hok h0
    rw [ok1] at NB
    rw [h0] at FL ⊢
    generalize numV x = nv at *
    clear hok h0 hW hc
    by_cases hr : nv < 1 ∨ 65536 < nv
    · have hp : ((0 : Int) ≠ 0 → False) ∧ True := ⟨fun h => h rfl, trivial⟩
      by_cases h1 : nv < 1
      · have d1 : decide (nv < 1) = true := decide_eq_true h1
        go_enter Tryz.func40, Tryz.ntmps40
        go_wp2_with (first | (go_at_call 38; refine FL.out.mono ?_; clear FL; rintro e w9 ⟨rfl, hw9⟩; obtain rfl := hw9.symm) | (go_at_call 39; refine (NB.out _).mono ?_; clear NB; rintro e w9 ⟨y, rfl, hy, hw9⟩; obtain rfl := hw9.symm; obtain rfl := hy (by trivial); clear hy))
        go_ret2
        exact ⟨fun h => absurd rfl h, fun _ => ⟨fun _ => rfl, fun h => by omega⟩, rfl⟩
      · have d1 : decide (nv < 1) = false := decide_eq_false h1
        have d2 : decide (65536 < nv) = true := decide_eq_true (by omega)
        have d3 : 65536 < nv := by omega
        go_enter Tryz.func40, Tryz.ntmps40
        go_wp2_with (first | (go_at_call 38; refine FL.out.mono ?_; clear FL; rintro e w9 ⟨rfl, hw9⟩; obtain rfl := hw9.symm) | (go_at_call 39; refine (NB.out _).mono ?_; clear NB; rintro e w9 ⟨y, rfl, hy, hw9⟩; obtain rfl := hw9.symm; obtain rfl := hy (by trivial); clear hy))
        go_ret2
        exact ⟨fun h => absurd rfl h, fun _ => ⟨fun _ => rfl, fun h => by omega⟩, rfl⟩
    · have d1 : decide (nv < 1) = false := decide_eq_false (by omega)
      have d2 : decide (65536 < nv) = false := decide_eq_false (by omega)
      have d3 : ¬ nv < 1 := by omega
      have d4 : ¬ 65536 < nv := by omega
      go_enter Tryz.func40, Tryz.ntmps40
      go_wp2_with (first | (go_at_call 38; refine FL.out.mono ?_; clear FL; rintro e w9 ⟨rfl, hw9⟩; obtain rfl := hw9.symm) | (go_at_call 39; refine (NB.out _).mono ?_; clear NB; rintro e w9 ⟨y, rfl, hy, hw9⟩; obtain rfl := hw9.symm; obtain rfl := hy (by trivial); clear hy))
      go_ret2
      exact ⟨fun h => absurd rfl h, fun _ => ⟨fun h => by omega, fun _ => rfl⟩, rfl⟩
  · generalize hf : fltL [x] = f at *
    have hne : (f != 0) = true := bne_iff_ne.2 h0
    have hne2 : ¬ f = 0 := h0
    clear hok hW hc hf
    go_enter Tryz.func40, Tryz.ntmps40
    go_wp2_with (go_at_call 38; refine FL.out.mono ?_; clear FL; rintro e w9 ⟨rfl, hw9⟩; obtain rfl := hw9.symm)
    go_ret2
    exact ⟨fun _ => rfl, fun h => absurd h h0, rfl⟩
end Go.Proofs.YtcomelbphdjnnaaGreatDoor.Sc
