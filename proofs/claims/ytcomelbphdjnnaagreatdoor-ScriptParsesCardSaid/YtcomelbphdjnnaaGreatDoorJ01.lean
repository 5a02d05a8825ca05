import Derived.Test.YtcomelbphdjnnaaGreatDoorChecked
import Derived.WalkKit
import Derived.WalkSpells
import Derived.WalkLawsBesides
import Derived.OpenShut
import Derived.Outline
import Derived.Below
import Derived.Deep.DeepCutAuto
import Derived.Deep.LoopGhost
import Derived.BigQuiet
import Derived.Lib.AppendIntMem
import Derived.Lib.Repeat
/-
  SCRIPT: the table of words (callWords), callOf, callNamed, Word, Op.
-/
namespace Go.Proofs.YtcomelbphdjnnaaGreatDoor.Sc
open Go.RowKit
set_option linter.unusedVariables false
set_option linter.unusedSimpArgs false
/-- The table, row by row: op, word, how many numbers stand behind it. -/
def tbl : List (Int × ByteArray × Int) := [(1, ⟨#[108, 111, 111, 107]⟩, 1), (2, ⟨#[98, 117, 109, 112]⟩, 1), (10, ⟨#[116, 97, 107, 101]⟩, 0), (11, ⟨#[103, 105, 118, 101]⟩, 1), (12, ⟨#[102, 108, 117, 115, 104]⟩, 0), (20, ⟨#[114, 101, 103, 105, 115, 116, 101, 114]⟩, 0), (21, ⟨#[117, 110, 114, 101, 103, 105, 115, 116, 101, 114]⟩, 0), (22, ⟨#[112, 111, 115, 116]⟩, 1), (23, ⟨#[114, 101, 97, 100]⟩, 1), (24, ⟨#[99, 108, 101, 97, 114]⟩, 1), (25, ⟨#[115, 99, 97, 110]⟩, 0), (30, ⟨#[112, 117, 115, 104]⟩, 1), (31, ⟨#[112, 111, 112]⟩, 0), (40, ⟨#[101, 110, 113, 117, 101, 117, 101]⟩, 1), (41, ⟨#[100, 101, 113, 117, 101, 117, 101]⟩, 0), (50, ⟨#[105, 110, 115, 101, 114, 116]⟩, 1), (51, ⟨#[100, 101, 108, 101, 116, 101]⟩, 1), (52, ⟨#[99, 111, 110, 116, 97, 105, 110, 115]⟩, 1), (60, ⟨#[97, 100, 100]⟩, 2), (61, ⟨#[114, 101, 109, 111, 118, 101]⟩, 1), (62, ⟨#[103, 101, 116]⟩, 1)]
def opA (k : Nat) : Int := (tbl.getD k (0, ⟨#[]⟩, 0)).1
def wdA (k : Nat) : ByteArray := (tbl.getD k (0, ⟨#[]⟩, 0)).2.1
def tkA (k : Nat) : Int := (tbl.getD k (0, ⟨#[]⟩, 0)).2.2
/-- The table, cell by cell. -/
def tab : Array Value := #[.int .i64 1, .string ⟨#[108, 111, 111, 107]⟩, .int .i64 1, .int .i64 2, .string ⟨#[98, 117, 109, 112]⟩, .int .i64 1, .int .i64 10, .string ⟨#[116, 97, 107, 101]⟩, .int .i64 0, .int .i64 11, .string ⟨#[103, 105, 118, 101]⟩, .int .i64 1, .int .i64 12, .string ⟨#[102, 108, 117, 115, 104]⟩, .int .i64 0, .int .i64 20, .string ⟨#[114, 101, 103, 105, 115, 116, 101, 114]⟩, .int .i64 0, .int .i64 21, .string ⟨#[117, 110, 114, 101, 103, 105, 115, 116, 101, 114]⟩, .int .i64 0, .int .i64 22, .string ⟨#[112, 111, 115, 116]⟩, .int .i64 1, .int .i64 23, .string ⟨#[114, 101, 97, 100]⟩, .int .i64 1, .int .i64 24, .string ⟨#[99, 108, 101, 97, 114]⟩, .int .i64 1, .int .i64 25, .string ⟨#[115, 99, 97, 110]⟩, .int .i64 0, .int .i64 30, .string ⟨#[112, 117, 115, 104]⟩, .int .i64 1, .int .i64 31, .string ⟨#[112, 111, 112]⟩, .int .i64 0, .int .i64 40, .string ⟨#[101, 110, 113, 117, 101, 117, 101]⟩, .int .i64 1, .int .i64 41, .string ⟨#[100, 101, 113, 117, 101, 117, 101]⟩, .int .i64 0, .int .i64 50, .string ⟨#[105, 110, 115, 101, 114, 116]⟩, .int .i64 1, .int .i64 51, .string ⟨#[100, 101, 108, 101, 116, 101]⟩, .int .i64 1, .int .i64 52, .string ⟨#[99, 111, 110, 116, 97, 105, 110, 115]⟩, .int .i64 1, .int .i64 60, .string ⟨#[97, 100, 100]⟩, .int .i64 2, .int .i64 61, .string ⟨#[114, 101, 109, 111, 118, 101]⟩, .int .i64 1, .int .i64 62, .string ⟨#[103, 101, 116]⟩, .int .i64 1]
theorem all_below {P : Nat → Bool} {n : Nat} (h : (List.range n).all P = true) {k : Nat} (hk : k < n) : P k = true := List.all_eq_true.1 h k (List.mem_range.2 hk)
theorem tab_op (k : Nat) (h : k < 21) : tab[k * 3]? = some (.int .i64 (opA k)) := by
  have : k = 0 ∨ k = 1 ∨ k = 2 ∨ k = 3 ∨ k = 4 ∨ k = 5 ∨ k = 6 ∨ k = 7 ∨ k = 8 ∨ k = 9 ∨ k = 10 ∨ k = 11 ∨ k = 12 ∨ k = 13 ∨ k = 14 ∨ k = 15 ∨ k = 16 ∨ k = 17 ∨ k = 18 ∨ k = 19 ∨ k = 20 := by omega
  rcases this with rfl | rfl | rfl | rfl | rfl | rfl | rfl | rfl | rfl | rfl | rfl | rfl | rfl | rfl | rfl | rfl | rfl | rfl | rfl | rfl | rfl <;> rfl
theorem tab_wd (k : Nat) (h : k < 21) : tab[k * 3 + 1]? = some (.string (wdA k)) := by
  have : k = 0 ∨ k = 1 ∨ k = 2 ∨ k = 3 ∨ k = 4 ∨ k = 5 ∨ k = 6 ∨ k = 7 ∨ k = 8 ∨ k = 9 ∨ k = 10 ∨ k = 11 ∨ k = 12 ∨ k = 13 ∨ k = 14 ∨ k = 15 ∨ k = 16 ∨ k = 17 ∨ k = 18 ∨ k = 19 ∨ k = 20 := by omega
  rcases this with rfl | rfl | rfl | rfl | rfl | rfl | rfl | rfl | rfl | rfl | rfl | rfl | rfl | rfl | rfl | rfl | rfl | rfl | rfl | rfl | rfl <;> rfl
theorem tab_tk (k : Nat) (h : k < 21) : tab[k * 3 + 2]? = some (.int .i64 (tkA k)) := by
  have : k = 0 ∨ k = 1 ∨ k = 2 ∨ k = 3 ∨ k = 4 ∨ k = 5 ∨ k = 6 ∨ k = 7 ∨ k = 8 ∨ k = 9 ∨ k = 10 ∨ k = 11 ∨ k = 12 ∨ k = 13 ∨ k = 14 ∨ k = 15 ∨ k = 16 ∨ k = 17 ∨ k = 18 ∨ k = 19 ∨ k = 20 := by omega
  rcases this with rfl | rfl | rfl | rfl | rfl | rfl | rfl | rfl | rfl | rfl | rfl | rfl | rfl | rfl | rfl | rfl | rfl | rfl | rfl | rfl | rfl <;> rfl
/-- The table in the world. -/
structure Tb (W : World) (g : Nat) : Prop where
  lt : g < W.heap.size
  op : ∀ k, k < 21 → W.cell? ⟨g, k * 3, none⟩ = some (.int .i64 (opA k))
  wd : ∀ k, k < 21 → W.cell? ⟨g, k * 3 + 1, none⟩ = some (.string (wdA k))
  tk : ∀ k, k < 21 → W.cell? ⟨g, k * 3 + 2, none⟩ = some (.int .i64 (tkA k))
theorem Tb.below {W W' : World} {g : Nat} (h : Tb W g) (hb : Below W.heap.size W W') : Tb W' g :=
  ⟨Nat.lt_of_lt_of_le h.lt hb.size, fun k hk => (hb.cell (p := ⟨g, _, none⟩) h.lt).trans (h.op k hk), fun k hk => (hb.cell (p := ⟨g, _, none⟩) h.lt).trans (h.wd k hk), fun k hk => (hb.cell (p := ⟨g, _, none⟩) h.lt).trans (h.tk k hk)⟩
theorem tb_made (w : World) (t : TypeId) : Tb (w.alloc (.cells tab t)) w.heap.size := by
  refine ⟨by simp, fun k hk => ?_, fun k hk => ?_, fun k hk => ?_⟩ <;> rw [World.cell?_alloc_at _ _ _ _ rfl]
  · exact tab_op k hk
  · exact tab_wd k hk
  · exact tab_tk k hk
set_option maxHeartbeats 2000000 in
set_option maxRecDepth 100000 in
theorem callWords_any (w : World) :
    Calls Tryz.prog 75 #[] w fun e w' => ∃ g, e = .returned (.slice (some ⟨g, 0, none⟩) 21 21) ∧ Below w.heap.size w w' ∧ Tb w' g ∧ w.heap.size ≤ g := by
  go_enter Tryz.func75, Tryz.ntmps75
  go_wp2
  go_ret
  exact ⟨_, rfl, (Below.refl _ _).alloc (Nat.le_refl _) _, tb_made w 116, Nat.le_refl _⟩
end Go.Proofs.YtcomelbphdjnnaaGreatDoor.Sc
/-
  SCRIPT, pure: forms filled with numbers; lines of moves; the text of a script.
-/
namespace Go.Proofs.YtcomelbphdjnnaaGreatDoor.Sc
open Go.RowKit
set_option linter.unusedVariables false
set_option linter.unusedSimpArgs false
/-- A form filled: each 0 is the next number. -/
def fil : List UInt8 → List Int → List UInt8
  | [], _ => []
  | c :: r, ns => if c = 48 then (match ns with | [] => fil r [] | n :: ms => Lib.itoa n ++ fil r ms) else c :: fil r ns
/-- How many numbers a form wants. -/
def zer : List UInt8 → Nat
  | [] => 0
  | c :: r => (if c = 48 then 1 else 0) + zer r
/-- A move. -/
structure Mv where
  th : Int
  op : Int
  arg : Int
  data : Int
deriving DecidableEq
def noMv : Mv := ⟨0, 0, 0, 0⟩
def stp (t : Int) : Mv := ⟨t, 0, 0, 0⟩
def fMachine : List UInt8 := [109, 97, 99, 104, 105, 110, 101, 32, 116, 104, 114, 101, 97, 100, 115, 32, 48, 32, 114, 101, 99, 111, 114, 100, 115, 32, 48, 32, 104, 97, 122, 97, 114, 100, 115, 32, 48, 32, 114, 101, 116, 105, 114, 101, 32, 48, 32, 99, 97, 99, 104, 101, 32, 48, 32, 115, 108, 111, 116, 115, 32, 48, 32, 98, 117, 99, 107, 101, 116, 115, 32, 48]
def fStep : List UInt8 := [48, 32, 46]
def fSteps : List UInt8 := [48, 32, 46, 32, 48]
def fRounds : List UInt8 := [42, 32, 48]
def fOp : List UInt8 := [48, 32, 111, 112, 32, 48, 32, 48, 32, 48]
/-- A row of the table as a form. -/
def fCall (k : Nat) : List UInt8 := [48, 32] ++ (wdA k).data.toList ++ Lib.repeatL [32, 48] (tkA k).toNat
/-- The row of an op. -/
def rowOf (op : Int) : Option Nat := (List.range 21).find? (fun k => opA k == op)
/-- Has a line with the word all of the move? -/
def tels (k : Nat) (m : Mv) : Bool := (decide (0 < tkA k) || m.arg == 0) && (decide (1 < tkA k) || m.data == 0)
/-- The line of a move that is no step. -/
def callLn (m : Mv) : List UInt8 :=
  match rowOf m.op with
  | some k => if tels k m = true then fil (fCall k) [m.th, m.arg, m.data] ++ [10] else fil fOp [m.th, m.op, m.arg, m.data] ++ [10]
  | none => fil fOp [m.th, m.op, m.arg, m.data] ++ [10]
/-- How many steps of thread t a list begins with. -/
def stepsOf (t : Int) : List Mv → Nat
  | [] => 0
  | m :: r => if m = stp t then stepsOf t r + 1 else 0
theorem stepsOf_le (t : Int) : ∀ l, stepsOf t l ≤ l.length
  | [] => Nat.le_refl _
  | m :: r => by have := stepsOf_le t r; unfold stepsOf; split <;> simp <;> omega
/-- The first line, and how many moves it takes. -/
def lineOf (m : Mv) (r : List Mv) : List UInt8 × Nat :=
  if stepsOf m.th (m :: r) = 0 then (callLn m, 1)
  else if stepsOf m.th (m :: r) = 1 then (fil fStep [m.th] ++ [10], 1)
  else (fil fSteps [m.th, (stepsOf m.th (m :: r) : Int)] ++ [10], stepsOf m.th (m :: r))
theorem lineOf_pos (m : Mv) (r : List Mv) : 1 ≤ (lineOf m r).2 ∧ (lineOf m r).2 ≤ (m :: r).length := by
  have h := stepsOf_le m.th (m :: r)
  unfold lineOf
  split
  · simp
  · split
    · simp
    · dsimp only; omega
/-- The lines of a script; 'fuel' bounds them. -/
def linesF : Nat → List Mv → List UInt8
  | 0, _ => []
  | _ + 1, [] => []
  | f + 1, m :: r => (lineOf m r).1 ++ linesF f ((m :: r).drop (lineOf m r).2)
def lines (ms : List Mv) : List UInt8 := linesF ms.length ms
theorem linesF_fuel : ∀ (f : Nat) (ms : List Mv), ms.length ≤ f → linesF f ms = linesF ms.length ms := by
  intro f
  induction f using Nat.strongRecOn with
  | ind f ih =>
    intro ms h
    cases ms with
    | nil => cases f <;> rfl
    | cons m r =>
      obtain ⟨p1, p2⟩ := lineOf_pos m r
      cases f with
      | zero => simp at h
      | succ f =>
        simp only [List.length_cons, linesF]
        have hd : ((m :: r).drop (lineOf m r).2).length ≤ r.length := by simp; omega
        have hd2 : ((m :: r).drop (lineOf m r).2).length ≤ f := by simp at h; omega
        by_cases e : f = r.length
        · rw [e]
        · rw [ih f (by omega) _ hd2, ih r.length (by simp at h; omega) _ hd]
theorem lines_cons (m : Mv) (r : List Mv) : lines (m :: r) = (lineOf m r).1 ++ lines ((m :: r).drop (lineOf m r).2) := by
  have hd : ((m :: r).drop (lineOf m r).2).length ≤ r.length := by have := (lineOf_pos m r).1; simp; omega
  unfold lines
  simp only [List.length_cons, linesF]
  rw [linesF_fuel r.length _ hd]
/-- The text of a script. -/
def prints (c : List Int) (ms : List Mv) : List UInt8 := fil fMachine c ++ [10] ++ lines ms
end Go.Proofs.YtcomelbphdjnnaaGreatDoor.Sc
