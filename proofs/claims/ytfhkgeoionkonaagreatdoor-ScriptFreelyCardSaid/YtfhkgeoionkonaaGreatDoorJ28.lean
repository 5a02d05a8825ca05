import Derived.Test.YtfhkgeoionkonaaGreatDoorJ27
import Derived.Test.YtfhkgeoionkonaaGreatDoorJ20
/-
  SCRIPT, pure: blanks, comments and lines that mean nothing change nothing of what is read.
-/
namespace Go.Proofs.YtfhkgeoionkonaaGreatDoor.Sc
open Go.RowKit
open Go.Lib (itoa)
set_option linter.unusedVariables false
set_option linter.unusedSimpArgs false
set_option maxRecDepth 100000
/-- The words of each line. -/
def lwF : Nat → List UInt8 → List (List (List UInt8))
  | _, [] => []
  | 0, _ :: _ => []
  | f + 1, c :: r => words (Lib.cut (c :: r) [10]).1 :: lwF f (Lib.cut (c :: r) [10]).2.1
theorem lwF_fuel : ∀ (f : Nat) (l : List UInt8), l.length ≤ f → lwF f l = lwF l.length l := by
  intro f
  induction f using Nat.strongRecOn with
  | ind f ih =>
    intro l h
    cases l with
    | nil => cases f <;> rfl
    | cons c r =>
      cases f with
      | zero => simp at h
      | succ f =>
        have hc := (cut_len c r).1
        simp only [List.length_cons] at hc h ⊢
        simp only [lwF]
        by_cases e : f = r.length
        · rw [e]
        · rw [ih f (by omega) _ (by omega), ih r.length (by omega) _ (by omega)]
def lw (l : List UInt8) : List (List (List UInt8)) := lwF l.length l
theorem lw_cons (c : UInt8) (r : List UInt8) : lw (c :: r) = words (Lib.cut (c :: r) [10]).1 :: lw (Lib.cut (c :: r) [10]).2.1 := by
  have hc := (cut_len c r).1
  simp only [List.length_cons] at hc
  unfold lw
  simp only [List.length_cons, lwF]
  rw [lwF_fuel r.length _ (by omega)]
theorem lw_line (a b : List UInt8) (h : ∀ x ∈ a, x ≠ 10) : lw (a ++ 10 :: b) = words a :: lw b := by
  have hc := cut_nl a b h
  generalize hl : a ++ 10 :: b = l at *
  cases l with
  | nil => have := congrArg List.length hl; simp at this
  | cons c r => rw [lw_cons, hc]
theorem lw_last (a : List UInt8) (ha : a ≠ []) (h : ∀ x ∈ a, x ≠ 10) : lw a = [words a] := by
  cases a with
  | nil => exact absurd rfl ha
  | cons c r => rw [lw_cons, cut_no _ h]; rfl
/-- What lines of words leave. -/
def runW : List (List (List UInt8)) → Cf × List Mv → Option (Cf × List Mv)
  | [], st => some st
  | ws :: r, st => if lnE st ws = 0 then runW r (lnS st ws) else none
theorem prO_runW : ∀ (n : Nat) (l : List UInt8) (st : Cf × List Mv), l.length ≤ n → prO l.length l st = runW (lw l) st
  | n, [], st, _ => rfl
  | 0, c :: r, st, h => by simp at h
  | n + 1, c :: r, st, h => by
    have hc := (cut_len c r).1
    simp only [List.length_cons] at hc h
    rw [lw_cons]
    simp only [List.length_cons, prO, runW]
    split
    · rw [prO_fuel r.length _ _ (by omega)]
      exact prO_runW n _ _ (by omega)
    · rfl
theorem runW_nil (r : List (List (List UInt8))) (st : Cf × List Mv) : runW ([] :: r) st = runW r st := by
  simp [runW, lnE, lnS]
/-- Bytes of blanks. -/
def fillB (n : Nat) : List UInt8 := if n % 5 = 1 then [9] else if n % 5 = 2 then [32, 32] else if n % 5 = 3 then [13, 32, 9] else [32]
def cmt : List UInt8 := [32, 35, 32, 97, 32, 99, 111, 109, 109, 101, 110, 116, 32, 119, 105, 116, 104, 32, 48, 32, 46, 32, 55]
def exB : List UInt8 := [9, 35, 10, 13, 10, 10]
def trl (n : Nat) : List UInt8 := if n % 3 = 0 then cmt else if n % 3 = 1 then fillB n else []
def tailB (n : Nat) : List UInt8 := trl n ++ 10 :: ((if n % 4 = 0 then exB else []) ++ (fillB (n / 8)).drop 1)
theorem fillB_bl (n : Nat) : ∀ c ∈ fillB n, bl c = true := by unfold fillB; repeat' split
                                                              all_goals decide
theorem fillB_ne (n : Nat) : fillB n ≠ [] := by unfold fillB; repeat' split
                                                all_goals simp
theorem fillB_len (n : Nat) : 1 ≤ (fillB n).length ∧ (fillB n).length ≤ 3 := by unfold fillB; repeat' split
                                                                                all_goals decide
theorem bl_ne10 {c : UInt8} (h : bl c = true) : c ≠ 10 := fun e => by rw [e] at h; exact absurd h (by decide)
theorem wgo_bls : ∀ (b r : List UInt8), (∀ c ∈ b, bl c = true) → wgo none (b ++ r) = wgo none r
  | [], r, _ => rfl
  | c :: b, r, h => by
    have hc := h c (List.mem_cons_self ..)
    simp only [List.cons_append, wgo, hc, if_true]
    exact wgo_bls b r (fun d hd => h d (List.mem_cons_of_mem _ hd))
/-- What may stand behind a line's last word. -/
def Trl (t : List UInt8) : Prop := (t = [] ∨ ∃ c r, t = c :: r ∧ bl c = true) ∧ wgo none t = [] ∧ ∀ x ∈ t, x ≠ 10
theorem trl_ok (n : Nat) : Trl (trl n) := by
  unfold trl
  split
  · exact ⟨.inr ⟨32, _, rfl, by decide⟩, by decide, by decide⟩
  · split
    · have h := fillB_bl n
      refine ⟨.inr ?_, ?_, fun x hx => bl_ne10 (h x hx)⟩
      · cases hf : fillB n with
        | nil => exact absurd hf (fillB_ne n)
        | cons c r => exact ⟨c, r, rfl, h c (by rw [hf]; exact List.mem_cons_self ..)⟩
      · have := wgo_bls (fillB n) [] h
        rw [List.append_nil] at this
        rw [this]; rfl
    · exact ⟨.inl rfl, rfl, by simp⟩
/-- The loose text. -/
def lgo (f : Nat → Nat) : Nat → List UInt8 → List UInt8
  | _, [] => []
  | at_, c :: r => if c = 32 then fillB (f (at_ + 1)) ++ lgo f (at_ + 1) r else if c = 10 then tailB (f (at_ + 1)) ++ lgo f (at_ + 1) r else c :: lgo f at_ r
theorem lgo_plain (f : Nat → Nat) (k : Nat) : ∀ (x y : List UInt8), (∀ c ∈ x, c ≠ 32 ∧ c ≠ 10) → lgo f k (x ++ y) = x ++ lgo f k y
  | [], y, _ => rfl
  | c :: x, y, h => by
    obtain ⟨h1, h2⟩ := h c (List.mem_cons_self ..)
    simp only [List.cons_append, lgo, h1, h2, if_false]
    rw [lgo_plain f k x y (fun d hd => h d (List.mem_cons_of_mem _ hd))]
/-- A line, loosened. -/
theorem lgo_line (f : Nat → Nat) (rest : List UInt8) : ∀ (ws : List (List UInt8)) (k : Nat), ws ≠ [] → (∀ x ∈ ws, Gw x) → (∀ x ∈ ws, ∀ c ∈ x, c ≠ 10) →
    ∃ body k', lgo f k (Lib.join ws [32] ++ 10 :: rest) = body ++ tailB (f (k' + 1)) ++ lgo f (k' + 1) rest ∧ (∀ x ∈ body, x ≠ 10) ∧ ∀ t, Trl t → wgo none (body ++ t) = ws
  | [], k, h, _, _ => absurd rfl h
  | [x], k, _, hg, hn => by
    have gx := hg x (List.mem_cons_self ..)
    refine ⟨x, k, ?_, hn x (List.mem_cons_self ..), fun t ht => ?_⟩
    · rw [Lib.join_one, lgo_plain f k x _ (fun c hc => ⟨fun e => by have := gx.2.1 c hc; rw [e] at this; exact absurd this (by decide), hn x (List.mem_cons_self ..) c hc⟩)]
      simp [lgo]
    · rw [wgo_word gx]
      rcases ht.1 with rfl | ⟨c, r, rfl, hc⟩
      · rfl
      · rw [wgo_blank x c hc]
        have := ht.2.1
        simp only [wgo, hc, if_true] at this
        rw [this]
  | x :: y :: r, k, _, hg, hn => by
    have gx := hg x (List.mem_cons_self ..)
    obtain ⟨body, k', e1, e2, e3⟩ := lgo_line f rest (y :: r) (k + 1) (by simp) (fun z hz => hg z (List.mem_cons_of_mem _ hz)) (fun z hz => hn z (List.mem_cons_of_mem _ hz))
    have e : Lib.join (x :: y :: r) [32] = x ++ 32 :: Lib.join (y :: r) [32] := by simp [Lib.join, List.intercalate]
    refine ⟨x ++ fillB (f (k + 1)) ++ body, k', ?_, ?_, fun t ht => ?_⟩
    · rw [e, List.append_assoc, List.cons_append, lgo_plain f k x _ (fun c hc => ⟨fun e => by have := gx.2.1 c hc; rw [e] at this; exact absurd this (by decide), hn x (List.mem_cons_self ..) c hc⟩)]
      simp only [lgo, if_true]
      rw [e1]
      simp
    · intro c hc
      rcases List.mem_append.1 hc with hc | hc
      · rcases List.mem_append.1 hc with hc | hc
        · exact hn x (List.mem_cons_self ..) c hc
        · exact bl_ne10 (fillB_bl _ c hc)
      · exact e2 c hc
    · rw [List.append_assoc, List.append_assoc, wgo_word gx]
      have hb := fillB_bl (f (k + 1))
      cases hf : fillB (f (k + 1)) with
      | nil => exact absurd hf (fillB_ne _)
      | cons b bs =>
        rw [hf] at hb
        rw [List.cons_append, wgo_blank x b (hb b (List.mem_cons_self ..)), wgo_bls bs _ (fun c hc => hb c (List.mem_cons_of_mem _ hc)), e3 t ht]
/-- Lines of words as a text. -/
def txt (wss : List (List (List UInt8))) : List UInt8 := wss.flatMap (fun ws => Lib.join ws [32] ++ [10])
def GoodL (wss : List (List (List UInt8))) : Prop := ∀ ws ∈ wss, ws ≠ [] ∧ (∀ x ∈ ws, Gw x) ∧ ∀ x ∈ ws, ∀ c ∈ x, c ≠ 10
theorem lw_txt : ∀ (wss : List (List (List UInt8))), GoodL wss → lw (txt wss) = wss
  | [], _ => rfl
  | ws :: r, h => by
    obtain ⟨h1, h2, h3⟩ := h ws (List.mem_cons_self ..)
    have e : txt (ws :: r) = Lib.join ws [32] ++ 10 :: txt r := by simp [txt]
    rw [e, lw_line _ _ (join_no ws h3), words_join ws h2, lw_txt r (fun z hz => h z (List.mem_cons_of_mem _ hz))]
theorem lw_lead (ld : List UInt8) (h : ∀ c ∈ ld, bl c = true) (st : Cf × List Mv) : runW (lw ld) st = some st := by
  by_cases e : ld = []
  · rw [e]; rfl
  · rw [lw_last ld e (fun x hx => bl_ne10 (h x hx))]
    have : words ld = [] := by
      have := wgo_bls ld [] h
      rw [List.append_nil] at this
      unfold words
      rw [this]; rfl
    rw [this, runW_nil]; rfl
theorem lgo_lines (f : Nat → Nat) : ∀ (wss : List (List (List UInt8))) (k : Nat) (ld : List UInt8) (st : Cf × List Mv), GoodL wss → (∀ c ∈ ld, bl c = true) → runW (lw (ld ++ lgo f k (txt wss))) st = runW wss st
  | [], k, ld, st, _, hl => by
    have e : ld ++ lgo f k (txt []) = ld := by simp [txt, lgo]
    rw [e, lw_lead ld hl]; rfl
  | ws :: r, k, ld, st, h, hl => by
    obtain ⟨h1, h2, h3⟩ := h ws (List.mem_cons_self ..)
    have e : txt (ws :: r) = Lib.join ws [32] ++ 10 :: txt r := by simp [txt]
    obtain ⟨body, k', e1, e2, e3⟩ := lgo_line f (txt r) ws k h1 h2 h3
    have tk := trl_ok (f (k' + 1))
    have hld : ∀ c ∈ (fillB (f (k' + 1) / 8)).drop 1, bl c = true := fun c hc => fillB_bl _ c (List.mem_of_mem_drop hc)
    have hno : ∀ x ∈ ld ++ (body ++ trl (f (k' + 1))), x ≠ 10 := by
      intro x hx
      rcases List.mem_append.1 hx with hx | hx
      · exact bl_ne10 (hl x hx)
      · rcases List.mem_append.1 hx with hx | hx
        · exact e2 x hx
        · exact tk.2.2 x hx
    have hw : words (ld ++ (body ++ trl (f (k' + 1)))) = ws := by unfold words; rw [wgo_bls ld _ hl, e3 _ tk]
    have ih := lgo_lines f r (k' + 1) ((fillB (f (k' + 1) / 8)).drop 1) (lnS st ws) (fun z hz => h z (List.mem_cons_of_mem _ hz)) hld
    have et : ld ++ lgo f k (txt (ws :: r)) = (ld ++ (body ++ trl (f (k' + 1)))) ++ 10 :: ((if f (k' + 1) % 4 = 0 then exB else []) ++ ((fillB (f (k' + 1) / 8)).drop 1 ++ lgo f (k' + 1) (txt r))) := by
      rw [e, e1]; unfold tailB; simp
    rw [et, lw_line _ _ hno, hw]
    simp only [runW]
    split
    · split
      · have hx : exB ++ ((fillB (f (k' + 1) / 8)).drop 1 ++ lgo f (k' + 1) (txt r)) = [9, 35] ++ 10 :: ([13] ++ 10 :: ([] ++ 10 :: ((fillB (f (k' + 1) / 8)).drop 1 ++ lgo f (k' + 1) (txt r)))) := rfl
        rw [hx, lw_line _ _ (by decide), lw_line _ _ (by decide), lw_line _ _ (by simp)]
        have w1 : words [9, 35] = [] := by decide
        have w2 : words [13] = [] := by decide
        have w3 : words [] = [] := rfl
        rw [w1, w2, w3, runW_nil, runW_nil, runW_nil]
        exact ih
      · rw [List.nil_append]; exact ih
    · rfl
/-- What is printed is lines of words. -/
theorem lines_txt : ∀ (n : Nat) (ms : List Mv), ms.length ≤ n → (∀ m ∈ ms, MvB m) → ms.length ≤ 65536 → ∃ wss, lines ms = txt wss ∧ GoodL wss
  | n, [], _, _, _ => ⟨[], rfl, fun ws h => by simp at h⟩
  | 0, m :: r, h, _, _ => by simp at h
  | n + 1, m :: r, h, hm, hl => by
    obtain ⟨p1, p2⟩ := lineOf_pos m r
    obtain ⟨ws, e1, e2, e3, e4, e5, e6⟩ := (ln_line 1 [] m r (hm m (List.mem_cons_self ..)) (by simpa using hl)).ex
    have hd : ((m :: r).drop (lineOf m r).2).length ≤ n := by simp at h ⊢; omega
    obtain ⟨wss, f1, f2⟩ := lines_txt n _ hd (fun x hx => hm x (List.mem_of_mem_drop hx)) (by simp at hl ⊢; omega)
    refine ⟨ws :: wss, ?_, ?_⟩
    · rw [lines_cons, e1, f1]; simp [txt]
    · intro z hz
      rcases List.mem_cons.1 hz with rfl | hz
      · exact ⟨e4, e2, e3⟩
      · exact f2 z hz
theorem prints_txt (c : Cf) (ms : List Mv) (hc : cfgC c = true) (hm : ∀ m ∈ ms, MvB m) (hl : ms.length ≤ 65536) : ∃ wss, prints (cfL c) ms = txt wss ∧ GoodL wss := by
  obtain ⟨ws, e1, e2, e3, e4, e5, e6⟩ := mac_line c hc
  obtain ⟨wss, f1, f2⟩ := lines_txt ms.length ms (Nat.le_refl _) hm hl
  refine ⟨ws :: wss, ?_, ?_⟩
  · unfold prints; rw [e1, f1]; simp [txt]
  · intro z hz
    rcases List.mem_cons.1 hz with rfl | hz
    · exact ⟨e4, e2, e3⟩
    · exact f2 z hz
/-- The loose text is read as what was printed. -/
theorem freely (c : Cf) (ms : List Mv) (f : Nat → Nat) (hc : cfgC c = true) (hm : ∀ m ∈ ms, MvB m) (hl : ms.length ≤ 65536) (ht : (prints (cfL c) ms).length ≤ 1048576) (hb : (lgo f 0 (prints (cfL c) ms)).length ≤ 1048576) : parseO (lgo f 0 (prints (cfL c) ms)) = some (c, ms) := by
  obtain ⟨wss, e1, e2⟩ := prints_txt c ms hc hm hl
  have hp := back c ms hc hm hl ht
  obtain ⟨q1, q2, q3⟩ := parseO_some hp
  rw [prO_runW _ _ _ (Nat.le_refl _), e1, lw_txt wss e2] at q2
  have hr := lgo_lines f wss 0 [] (cfZ, []) e2 (by simp)
  rw [List.nil_append, q2] at hr
  unfold parseO
  rw [if_pos hb, prO_runW _ _ _ (Nat.le_refl _), e1, hr]
  dsimp only
  rw [if_neg q3]
end Go.Proofs.YtfhkgeoionkonaaGreatDoor.Sc
/-
  SCRIPT: fill; rows of bytes that came in.
-/
namespace Go.Proofs.YtfhkgeoionkonaaGreatDoor.Sc
open Go.ChangeShapes Go.WideShapes Go.ChangeAt Go.RowKit Go.Deep Mr
set_option linter.unusedVariables false
set_option linter.unusedSimpArgs false
set_option maxRecDepth 100000
set_option maxHeartbeats 4000000 in
theorem fill_any (x : Nat) (hx : x < 256) (w : World) : Calls Tryz.prog 15 #[.int .u8 (x : Int)] w fun e w' => e = .returned (.slice (some ⟨w.heap.size, 0, none⟩) (fillB x).length (fillB x).length) ∧ w' = w.alloc (.cells (Lib.byteCells (fillB x)).toArray 5) := by
  unfold fillB
  by_cases h1 : x % 5 = 1
  · have k1 : ((x : Int) % 5 == 1) = true := by simp; omega
    have k1' : ((x : Int).tmod 5 == 1) = true := by rw [Int.tmod_eq_emod_of_nonneg (by omega)]; exact k1
    rw [if_pos h1]
    clear h1 hx
    go_enter Tryz.func15, Tryz.ntmps15
    go_wp2
    go_ret
    exact ⟨rfl, rfl⟩
  · have k1 : ((x : Int) % 5 == 1) = false := beq_eq_false_iff_ne.2 (by omega)
    have k1' : ((x : Int).tmod 5 == 1) = false := by rw [Int.tmod_eq_emod_of_nonneg (by omega)]; exact k1
    rw [if_neg h1]
    by_cases h2 : x % 5 = 2
    · have k2 : ((x : Int) % 5 == 2) = true := by simp; omega
      have k2' : ((x : Int).tmod 5 == 2) = true := by rw [Int.tmod_eq_emod_of_nonneg (by omega)]; exact k2
      rw [if_pos h2]
      clear h1 h2 hx
      go_enter Tryz.func15, Tryz.ntmps15
      go_wp2
      go_ret
      exact ⟨rfl, rfl⟩
    · have k2 : ((x : Int) % 5 == 2) = false := beq_eq_false_iff_ne.2 (by omega)
      have k2' : ((x : Int).tmod 5 == 2) = false := by rw [Int.tmod_eq_emod_of_nonneg (by omega)]; exact k2
      rw [if_neg h2]
      by_cases h3 : x % 5 = 3
      · have k3 : ((x : Int) % 5 == 3) = true := by simp; omega
        have k3' : ((x : Int).tmod 5 == 3) = true := by rw [Int.tmod_eq_emod_of_nonneg (by omega)]; exact k3
        rw [if_pos h3]
        clear h1 h2 h3 hx
        go_enter Tryz.func15, Tryz.ntmps15
        go_wp2
        go_ret
        exact ⟨rfl, rfl⟩
      · have k3 : ((x : Int) % 5 == 3) = false := beq_eq_false_iff_ne.2 (by omega)
        have k3' : ((x : Int).tmod 5 == 3) = false := by rw [Int.tmod_eq_emod_of_nonneg (by omega)]; exact k3
        rw [if_neg h3]
        clear h1 h2 h3 hx
        go_enter Tryz.func15, Tryz.ntmps15
        go_wp2
        go_ret
        exact ⟨rfl, rfl⟩
/-- Bytes behind an address. -/
structure ByAt (W : World) (a : Option Addr) (n : Nat) (bs : List Nat) : Prop where
  len : n = bs.length
  bd : ∀ x ∈ bs, x < 256
  row : bs = [] ∨ ∃ b off, a = some ⟨b, off, none⟩ ∧ b < W.heap.size ∧ ∀ (j x : Nat), bs[j]? = some x → W.cell? ⟨b, off + j, none⟩ = some (.int .u8 (x : Int))
theorem ByAt.below {W W' : World} {a : Option Addr} {n : Nat} {bs : List Nat} (h : ByAt W a n bs) (hB : Below W.heap.size W W') : ByAt W' a n bs := by
  refine ⟨h.len, h.bd, ?_⟩
  rcases h.row with e | ⟨b, off, rfl, hb, hc⟩
  · exact .inl e
  · exact .inr ⟨b, off, rfl, Nat.lt_of_lt_of_le hb hB.size, fun j x hx => (hB.cell (p := ⟨b, off + j, none⟩) hb).trans (hc j x hx)⟩
theorem cells_u8 : Tryz.prog.cellsOf 5 = 1 := by kernel_rfl
set_option maxRecDepth 100000 in
theorem open_by {H : Type} {enc : TypeId × Value → H} {w : World} {base : Nat} {spare : Nat → Bool} {held : Bool} {r : Reach} {b0 : Nat} {v : Value} {d : DataW H} {p : List MemPlace} (hv : Value.okWide Tryz.prog w r b0 40 v) (h : DataW.Trod enc Tryz.prog w base spare held 40 v d p) :
    ∃ a n cap bs, v = .slice a n cap ∧ ByAt w a n bs ∧ n ≤ cap ∧ cap ≤ maxLen := by
  obtain ⟨a, n, cap, rfl⟩ := okWide_slice Tryz.underlying40 hv
  obtain ⟨fuel, hf⟩ := h
  rcases open_slice Tryz.underlying40 hf with ⟨hc, hx⟩ | ⟨ad, n', cap', m, k, D, Pl, hc, hcm, hl, _, hm, hx, hel⟩
  · simp [Value.cells] at hc
    obtain ⟨rfl, rfl, rfl⟩ := hc
    exact ⟨none, 0, 0, [], rfl, ⟨rfl, by simp, .inl rfl⟩, Nat.le_refl _, by unfold maxLen; omega⟩
  · simp [Value.cells] at hc
    obtain ⟨rfl, rfl, rfl⟩ := hc
    have hle : n ≤ m := by rw [hm]; split <;> omega
    have each : ∀ i, i < n → ∃ x : Nat, x < 256 ∧ w.cell? (ad.add i) = some (.int .u8 (x : Int)) := by
      intro i hi
      obtain ⟨cs, h1, h2⟩ := hel i (by omega)
      rw [cells_u8, Nat.mul_one] at h1
      obtain ⟨_, hcl, hce⟩ := World.cells?_some h1
      obtain ⟨z, hz, _, hwf⟩ := DataW.trod_int Tryz.underlying5 h2
      have hzb : 0 ≤ z ∧ z < 256 := by
        have h : IntKind.u8.min ≤ z ∧ z ≤ IntKind.u8.max := by simpa [Lit.wf] using hwf
        have e1 : IntKind.u8.min = 0 := by decide
        have e2 : IntKind.u8.max = 255 := by decide
        omega
      refine ⟨z.toNat, by omega, ?_⟩
      have e1 : ((z.toNat : Nat) : Int) = z := by omega
      rw [e1]
      have := hce 0 (by rw [hz] at hcl; simp at hcl; omega)
      rw [hz] at this
      have e2 : (ad.add i).add 0 = ad.add i := by unfold Addr.add; cases ad.spot <;> simp
      rw [e2] at this
      simpa using this
    obtain ⟨f, hf'⟩ := Classical.axiomOfChoice (fun i => (if h : i < n then (by obtain ⟨o, ho⟩ := each i h; exact ⟨o, fun _ => ho⟩) else ⟨0, fun h' => absurd h' h⟩ : ∃ x : Nat, i < n → x < 256 ∧ w.cell? (ad.add i) = some (.int .u8 (x : Int))))
    have hlen : ((List.range n).map f).length = n := by simp
    refine ⟨some ad, n, cap, (List.range n).map f, rfl, ⟨hlen.symm, fun x hx => by obtain ⟨j, hj, rfl⟩ := List.mem_map.1 hx; exact (hf' j (List.mem_range.1 hj)).1, ?_⟩, hl, by omega⟩
    by_cases hn : n = 0
    · subst hn; exact .inl rfl
    · have hsp : ad.spot = none := by
        have := World.cell?_spot (hf' 0 (by omega)).2
        simpa [Addr.add] using this
      obtain ⟨b, o, s⟩ := ad
      simp at hsp
      subst hsp
      have e1 : ∀ (i : Nat), (⟨b, o, none⟩ : Addr).add i = ⟨b, o + i, none⟩ := fun i => by unfold Addr.add; split <;> simp_all
      refine .inr ⟨b, o, rfl, ?_, fun j x hx => ?_⟩
      · have := World.block_lt_of_cell? w _ (hf' 0 (by omega)).2
        rw [e1] at this
        exact this
      · have hj : j < n := by have := (List.getElem?_eq_some_iff.1 hx).1; simpa using this
        have : f j = x := by simpa [hj] using hx
        rw [← this, ← e1]
        exact (hf' j hj).2
/-- What a byte of the text makes of the loose one. -/
def lst (f : Nat → Nat) (p : Nat × List UInt8) (c : UInt8) : Nat × List UInt8 := if c = 32 then (p.1 + 1, p.2 ++ fillB (f (p.1 + 1))) else if c = 10 then (p.1 + 1, p.2 ++ tailB (f (p.1 + 1))) else (p.1, p.2 ++ [c])
theorem lst_fold (f : Nat → Nat) : ∀ (l : List UInt8) (p : Nat × List UInt8), (l.foldl (lst f) p).2 = p.2 ++ lgo f p.1 l
  | [], p => by simp [lgo]
  | c :: l, p => by
    rw [List.foldl_cons, lst_fold f l]
    unfold lst
    by_cases h1 : c = 32
    · simp [lgo, h1]
    · by_cases h2 : c = 10
      · simp [lgo, h2]
      · simp [lgo, h1, h2]
theorem tailB_len (n : Nat) : (tailB n).length ≤ 40 := by
  have h1 := (fillB_len n).2
  have h2 := (fillB_len (n / 8)).2
  unfold tailB trl
  have e1 : cmt.length = 23 := rfl
  have e2 : exB.length = 6 := rfl
  repeat' split
  all_goals (simp; omega)
theorem lst_len (f : Nat → Nat) (p : Nat × List UInt8) (c : UInt8) : (lst f p c).2.length ≤ p.2.length + 40 ∧ (lst f p c).1 ≤ p.1 + 1 := by
  unfold lst
  split
  · have := (fillB_len (f (p.1 + 1))).2; simp; omega
  · split
    · have := tailB_len (f (p.1 + 1)); simp; omega
    · simp
theorem fold_len (f : Nat → Nat) (L : List UInt8) : ∀ i, i ≤ L.length → ((L.take i).foldl (lst f) (0, [])).2.length ≤ 40 * i ∧ ((L.take i).foldl (lst f) (0, [])).1 ≤ i
  | 0, _ => by simp
  | i + 1, h => by
    obtain ⟨h1, h2⟩ := fold_len f L i (by omega)
    rw [List.take_succ_eq_append_getElem (by omega), List.foldl_append, List.foldl_cons, List.foldl_nil]
    have := lst_len f ((L.take i).foldl (lst f) (0, [])) L[i]
    omega
end Go.Proofs.YtfhkgeoionkonaaGreatDoor.Sc
