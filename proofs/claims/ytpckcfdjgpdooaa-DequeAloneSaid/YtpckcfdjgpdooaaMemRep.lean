/-
  A MEMORY of the program as it lies in the world; New, Size, Count, has, Now, Words by their contracts.
-/
import Derived.Test.YtpckcfdjgpdooaaMemRow
import Derived.Test.YtpckcfdjgpdooaaChecked
import Derived.Laws.AppendOwn
namespace Go.Proofs.Ytpckcfdjgpdooaa.Me
open Go.RowKit Mr

/-- An access, as the log has it. -/
structure Acc where
  mv : Int
  th : Int
  kd : Int
  ad : Int
  old : Int
  new : Int
  saw : Int
def Acc.cells (a : Acc) : List Value := [.int .i64 a.mv, .int .i64 a.th, .int .i64 a.kd, .int .i64 a.ad, .int .u64 a.old, .int .u64 a.new, .int .u64 a.saw]
def Acc.val (a : Acc) : Value := .agg #[.int .i64 a.mv, .int .i64 a.th, .int .i64 a.kd, .int .i64 a.ad, .int .u64 a.old, .int .u64 a.new, .int .u64 a.saw]
def wrd (ws : List Int) : List Value := ws.map (Value.int .u64)
def lgc (lg : List Acc) : List Value := lg.flatMap Acc.cells
theorem wrd_length (ws : List Int) : (wrd ws).length = ws.length := by simp [wrd]
theorem lgc_length (lg : List Acc) : (lgc lg).length = lg.length * 7 := by
  induction lg with
  | nil => rfl
  | cons a l ih => simp only [lgc, List.flatMap_cons, List.length_append, List.length_cons] at ih ⊢; rw [ih]; simp [Acc.cells]; omega
theorem wrd_get (ws : List Int) (j : Nat) (h : j < ws.length) : (wrd ws)[j]? = some (.int .u64 (ws[j]?.getD 0)) := by simp [wrd, h]
theorem wrd_one (ws : List Int) : ∀ u ∈ wrd ws, u.oneCell' = true := by
  intro u hu; simp only [wrd, List.mem_map] at hu; obtain ⟨x, _, rfl⟩ := hu; rfl
theorem lgc_snoc (lg : List Acc) (a : Acc) : lgc (lg ++ [a]) = lgc lg ++ a.cells := by simp [lgc]
theorem wrd_snoc (ws : List Int) (x : Int) : wrd (ws ++ [x]) = wrd ws ++ [.int .u64 x] := by simp [wrd]

structure Mem (W : World) (S : Nat → Prop) (b : Nat) (vw vl va : Value) (ws : List Int) (mv : Int) (lg : List Acc) (ah : List Int) : Prop where
  blk : W.heap[b]? = some (.cells #[vw, .int .i64 mv, vl, va] 122 (0, 0))
  inb : S b
  hw : Has W S 56 1 vw ws.length (wrd ws)
  hl : Has W S 59 7 vl lg.length (lgc lg)
  ha : Has W S 56 1 va ah.length (wrd ah)
  ne : ∀ k, vw.ownBlock = some k → va.ownBlock ≠ some k
  len : ws.length ≤ 8192

section
variable {W : World} {S : Nat → Prop} {b : Nat} {vw vl va : Value} {ws : List Int} {mv : Int} {lg : List Acc} {ah : List Int}
theorem Mem.lt (h : Mem W S b vw vl va ws mv lg ah) : b < W.heap.size := (Array.getElem?_eq_some_iff.1 h.blk).1
theorem Mem.c0 (h : Mem W S b vw vl va ws mv lg ah) : W.cell? ⟨b, 0, none⟩ = some vw := by simp [World.cell?, h.blk]
theorem Mem.c1 (h : Mem W S b vw vl va ws mv lg ah) : W.cell? ⟨b, 1, none⟩ = some (.int .i64 mv) := by simp [World.cell?, h.blk]
theorem Mem.c2 (h : Mem W S b vw vl va ws mv lg ah) : W.cell? ⟨b, 2, none⟩ = some vl := by simp [World.cell?, h.blk]
theorem Mem.c3 (h : Mem W S b vw vl va ws mv lg ah) : W.cell? ⟨b, 3, none⟩ = some va := by simp [World.cell?, h.blk]
theorem Mem.fz (h : Mem W S b vw vl va ws mv lg ah) (o : Nat) : W.frozen? ⟨b, o, none⟩ = false := by simp [World.frozen?, h.blk]
theorem Mem.mono {T : Nat → Prop} (h : Mem W S b vw vl va ws mv lg ah) (hT : ∀ k, S k → T k) : Mem W T b vw vl va ws mv lg ah :=
  ⟨h.blk, hT b h.inb, h.hw.mono hT, h.hl.mono hT, h.ha.mono hT, h.ne, h.len⟩
theorem Mem.kept {W' : World} (h : Mem W S b vw vl va ws mv lg ah) (hk : ∀ k, S k → k < W.heap.size → W'.heap[k]? = W.heap[k]?) : Mem W' S b vw vl va ws mv lg ah :=
  ⟨(hk b h.inb h.lt).trans h.blk, h.inb, h.hw.kept (fun k e => hk k (h.hw.lt k e).1 (h.hw.lt k e).2) (fun k e => (h.hw.lt k e).1),
    h.hl.kept (fun k e => hk k (h.hl.lt k e).1 (h.hl.lt k e).2) (fun k e => (h.hl.lt k e).1), h.ha.kept (fun k e => hk k (h.ha.lt k e).1 (h.ha.lt k e).2) (fun k e => (h.ha.lt k e).1), h.ne, h.len⟩
theorem Mem.below {W' : World} (h : Mem W S b vw vl va ws mv lg ah) (hb : Below W.heap.size W W') : Mem W' S b vw vl va ws mv lg ah :=
  h.kept fun k _ hk => hb.block k hk
theorem Mem.fr {W' : World} {T : Nat → Prop} (h : Mem W S b vw vl va ws mv lg ah) (hb : Fr W W' T) (hd : ∀ k, S k → k < W.heap.size → ¬ T k) : Mem W' S b vw vl va ws mv lg ah :=
  h.kept fun k hs hk => hb.block k hk (hd k hs hk)
/-- S narrowed to the blocks that there are. -/
theorem Mem.narrow (h : Mem W S b vw vl va ws mv lg ah) : Mem W (fun k => S k ∧ k < W.heap.size) b vw vl va ws mv lg ah :=
  ⟨h.blk, ⟨h.inb, h.lt⟩, h.hw.kept (fun _ _ => rfl) (fun k e => h.hw.lt k e), h.hl.kept (fun _ _ => rfl) (fun k e => h.hl.lt k e), h.ha.kept (fun _ _ => rfl) (fun k e => h.ha.lt k e), h.ne, h.len⟩
theorem Mem.bw (h : Mem W S b vw vl va ws mv lg ah) : vw.ownBlock ≠ some b := fun e => by
  rcases h.hw.2 with ⟨rfl, _⟩ | ⟨g, _, cur, rfl, _, hg, _⟩
  · simp [Value.ownBlock] at e
  · simp [Value.ownBlock] at e; subst e; rw [h.blk] at hg; simp at hg
theorem Mem.bl (h : Mem W S b vw vl va ws mv lg ah) : vl.ownBlock ≠ some b := fun e => by
  rcases h.hl.2 with ⟨rfl, _⟩ | ⟨g, _, cur, rfl, _, hg, _⟩
  · simp [Value.ownBlock] at e
  · simp [Value.ownBlock] at e; subst e; rw [h.blk] at hg; simp at hg
theorem Mem.ba (h : Mem W S b vw vl va ws mv lg ah) : va.ownBlock ≠ some b := fun e => by
  rcases h.ha.2 with ⟨rfl, _⟩ | ⟨g, _, cur, rfl, _, hg, _⟩
  · simp [Value.ownBlock] at e
  · simp [Value.ownBlock] at e; subst e; rw [h.blk] at hg; simp at hg
end
theorem has_ne {W : World} {S T : Nat → Prop} {e f sz tz n m : Nat} {u v : Value} {xs ys : List Value} (h : Has W S e sz u n xs) (h' : Has W T f tz v m ys) (hef : e ≠ f) : ∀ k, u.ownBlock = some k → v.ownBlock ≠ some k := by
  intro k hu hv
  rcases h.2 with ⟨rfl, _⟩ | ⟨g, _, cur, rfl, _, hg, _⟩
  · simp [Value.ownBlock] at hu
  · rcases h'.2 with ⟨rfl, _⟩ | ⟨g', _, cur', rfl, _, hg', _⟩
    · simp [Value.ownBlock] at hv
    · simp [Value.ownBlock] at hu hv
      subst hu; subst hv
      rw [hg] at hg'; simp at hg'
      exact hef hg'.2

/-! ### contracts -/
section
variable {W : World} {S : Nat → Prop} {b : Nat} {vw vl va : Value} {ws : List Int} {mv : Int} {lg : List Acc} {ah : List Int}
theorem size_any (h : Mem W S b vw vl va ws mv lg ah) :
    Calls Try.prog 93 #[.pointer (some ⟨b, 0, none⟩)] W fun e w' => e = .returned (.int .i64 ws.length) ∧ w' = W := by
  obtain ⟨a, cap, rfl, _⟩ := h.hw.form
  have h0 := h.c0
  clear h
  go_enter Try.func93, Try.ntmps93
  go_wp2
  go_ret
  exact ⟨rfl, rfl⟩
theorem size_nil (w : World) :
    Calls Try.prog 93 #[.pointer none] w fun e w' => e = .returned (.int .i64 0) ∧ w' = w := by
  go_enter Try.func93, Try.ntmps93
  go_wp2
  go_ret
  exact ⟨rfl, rfl⟩
theorem count_any (h : Mem W S b vw vl va ws mv lg ah) :
    Calls Try.prog 56 #[.pointer (some ⟨b, 0, none⟩)] W fun e w' => e = .returned (.int .i64 lg.length) ∧ w' = W := by
  obtain ⟨a, cap, rfl, _⟩ := h.hl.form
  have h0 := h.c2
  clear h
  go_enter Try.func56, Try.ntmps56
  go_wp2
  go_ret
  exact ⟨rfl, rfl⟩
theorem count_nil (w : World) :
    Calls Try.prog 56 #[.pointer none] w fun e w' => e = .returned (.int .i64 0) ∧ w' = w := by
  go_enter Try.func56, Try.ntmps56
  go_wp2
  go_ret
  exact ⟨rfl, rfl⟩
theorem has_yes (h : Mem W S b vw vl va ws mv lg ah) (ad : Int) (h0 : 0 ≤ ad) (h1 : ad < ws.length) :
    Calls Try.prog 85 #[.pointer (some ⟨b, 0, none⟩), .int .i64 ad] W fun e w' => e = .returned (.bool true) ∧ w' = W := by
  have C := size_any h
  generalize ws.length = n at *
  clear h
  go_enter Try.func85, Try.ntmps85
  go_wp2_with (go_at_call 93; refine C.mono ?_; rintro e w' ⟨rfl, rfl⟩)
  go_ret
  exact ⟨rfl, rfl⟩
theorem has_no (h : Mem W S b vw vl va ws mv lg ah) (ad : Int) (h0 : ad < 0 ∨ ws.length ≤ ad) :
    Calls Try.prog 85 #[.pointer (some ⟨b, 0, none⟩), .int .i64 ad] W fun e w' => e = .returned (.bool false) ∧ w' = W := by
  have C := size_any h
  generalize ws.length = n at *
  clear h
  by_cases h1 : 0 ≤ ad
  · have h2 : decide (ad < (n : Int)) = false := by simp; omega
    clear h0
    go_enter Try.func85, Try.ntmps85
    go_wp2_with (go_at_call 93; refine C.mono ?_; rintro e w' ⟨rfl, rfl⟩)
    go_ret
    exact ⟨rfl, rfl⟩
  · have h2 : ad < 0 := by omega
    clear h0 h1 C
    go_enter Try.func85, Try.ntmps85
    go_wp2
    go_ret
    exact ⟨rfl, rfl⟩
theorem has_nil (ad : Int) (w : World) :
    Calls Try.prog 85 #[.pointer none, .int .i64 ad] w fun e w' => e = .returned (.bool false) ∧ w' = w := by
  by_cases h1 : 0 ≤ ad
  · have h2 : decide (ad < 0) = false := by simp; omega
    go_enter Try.func85, Try.ntmps85
    go_wp2_with (go_at_call 93; refine (size_nil _).mono ?_; rintro e w' ⟨rfl, rfl⟩)
    go_ret
    exact ⟨rfl, rfl⟩
  · have h2 : ad < 0 := by omega
    clear h1
    go_enter Try.func85, Try.ntmps85
    go_wp2
    go_ret
    exact ⟨rfl, rfl⟩
theorem now_any (h : Mem W S b vw vl va ws mv lg ah) (x : Int) :
    Calls Try.prog 84 #[.pointer (some ⟨b, 0, none⟩), .int .i64 x] W fun e w' => e = .returned (.tuple #[]) ∧ Mem w' S b vw vl va ws x lg ah ∧ Fr W w' S := by
  have h0 := h.c1
  have f0 := h.fz 1
  have fin : Mem (W.setCell ⟨b, 1, none⟩ (.int .i64 x)) S b vw vl va ws x lg ah ∧ Fr W (W.setCell ⟨b, 1, none⟩ (.int .i64 x)) S := by
    refine ⟨⟨?_, h.inb, h.hw.setCell _ _ (h.bw), h.hl.setCell _ _ (h.bl), h.ha.setCell _ _ (h.ba), h.ne, h.len⟩, (Fr.refl _ _).setCell _ _ (.inl h.inb)⟩
    obtain ⟨hlt, hk⟩ := Array.getElem?_eq_some_iff.1 h.blk
    show (W.heap.modify b _)[b]? = _
    rw [Array.getElem?_eq_getElem (by rw [Array.size_modify]; exact hlt), Array.getElem_modify_self, hk]
    rfl
  clear h
  go_enter Try.func84, Try.ntmps84
  go_wp2
  go_end0
  exact ⟨rfl, fin⟩
theorem now_nil (x : Int) (w : World) :
    Calls Try.prog 84 #[.pointer none, .int .i64 x] w fun e w' => e = .returned (.tuple #[]) ∧ w' = w := by
  go_enter Try.func84, Try.ntmps84
  go_wp2
  go_end0
  exact ⟨rfl, rfl⟩
end
end Go.Proofs.Ytpckcfdjgpdooaa.Me
