/-
  CONTRACT of traitOf.
-/
import Derived.Test.YtpmpdkpnjfidhaaDoorChecked
import Derived.WalkKit
import Derived.WalkSpells
import Derived.WalkLawsBesides
import Derived.OpenShut
import Derived.Outline
import Derived.Below
import Derived.Deep.MidRow
import Derived.Deep.DeepCutAuto
namespace Go.Proofs.YtpmpdkpnjfidhaaDoor.Tr
open Go.RowKit
set_option linter.unusedVariables false
/-- A region's name, kind and how many numbers it has. -/
def tName (r : Int) : ByteArray :=
  if r = 1 then ⟨#[102, 114, 101, 101]⟩
  else if r = 2 then ⟨#[99, 101, 108, 108]⟩
  else if r = 3 then ⟨#[116, 111, 112]⟩
  else if r = 4 then ⟨#[104, 101, 97, 100]⟩
  else if r = 5 then ⟨#[116, 97, 105, 108]⟩
  else if r = 6 then ⟨#[114, 111, 111, 116]⟩
  else if r = 7 then ⟨#[98, 117, 99, 107, 101, 116]⟩
  else if r = 8 then ⟨#[97, 99, 116, 105, 118, 101]⟩
  else if r = 9 then ⟨#[104, 97, 122, 97, 114, 100]⟩
  else if r = 10 then ⟨#[115, 112, 97, 114, 101]⟩
  else if r = 11 then ⟨#[118, 97, 108, 117, 101]⟩
  else if r = 12 then ⟨#[100, 97, 116, 97]⟩
  else if r = 13 then ⟨#[108, 105, 110, 107]⟩
  else ⟨#[]⟩
def tKind (r : Int) : Int :=
  if r = 1 then 0
  else if r = 2 then 1
  else if r = 3 then 1
  else if r = 4 then 1
  else if r = 5 then 1
  else if r = 6 then 1
  else if r = 7 then 1
  else if r = 8 then 2
  else if r = 9 then 1
  else if r = 10 then 1
  else if r = 11 then 3
  else if r = 12 then 3
  else if r = 13 then 4
  else 0
def tNums (r : Int) : Int :=
  if r = 1 then 0
  else if r = 2 then 0
  else if r = 3 then 0
  else if r = 4 then 0
  else if r = 5 then 0
  else if r = 6 then 0
  else if r = 7 then 1
  else if r = 8 then 1
  else if r = 9 then 2
  else if r = 10 then 1
  else if r = 11 then 1
  else if r = 12 then 1
  else if r = 13 then 1
  else 0
/-- The table, cell by cell. -/
def tab : Array Value := #[.string ⟨#[]⟩, .int .i64 0, .int .i64 0, .string ⟨#[102, 114, 101, 101]⟩, .int .i64 0, .int .i64 0, .string ⟨#[99, 101, 108, 108]⟩, .int .i64 1, .int .i64 0, .string ⟨#[116, 111, 112]⟩, .int .i64 1, .int .i64 0, .string ⟨#[104, 101, 97, 100]⟩, .int .i64 1, .int .i64 0, .string ⟨#[116, 97, 105, 108]⟩, .int .i64 1, .int .i64 0, .string ⟨#[114, 111, 111, 116]⟩, .int .i64 1, .int .i64 0, .string ⟨#[98, 117, 99, 107, 101, 116]⟩, .int .i64 1, .int .i64 1, .string ⟨#[97, 99, 116, 105, 118, 101]⟩, .int .i64 2, .int .i64 1, .string ⟨#[104, 97, 122, 97, 114, 100]⟩, .int .i64 1, .int .i64 2, .string ⟨#[115, 112, 97, 114, 101]⟩, .int .i64 1, .int .i64 1, .string ⟨#[118, 97, 108, 117, 101]⟩, .int .i64 3, .int .i64 1, .string ⟨#[100, 97, 116, 97]⟩, .int .i64 3, .int .i64 1, .string ⟨#[108, 105, 110, 107]⟩, .int .i64 4, .int .i64 1]
theorem info_tab : (Tryd.prog.info? 76).map (·.size) = some tab.size := by kernel_rfl
theorem tab_one : tab.all (·.oneCell') = true := by kernel_rfl
theorem tab_size : tab.size = 42 := by kernel_rfl
/-- What the world holds behind the table's making. -/
structure Made (w wc : World) : Prop where
  cell : ∀ j, j < 42 → wc.cell? ⟨w.heap.size + 1, j, none⟩ = tab[j]?
  res : ∀ k, k < 3 → (wc.cell? ⟨w.heap.size, k, none⟩).isSome = true
  free : ∀ k, wc.frozen? ⟨w.heap.size, k, none⟩ = false
  below : Below w.heap.size w wc
  size : w.heap.size + 1 < wc.heap.size
theorem below_setCells (B : Nat) (b : Nat) : ∀ (vs : List Value) (o : Nat) (w w1 : World), Below B w w1 → B ≤ b → Below B w (w1.setCells b o vs)
  | [], _, _, _, h, _ => h
  | v :: vs, o, w, w1, h, hb => below_setCells B b vs (o + 1) w (w1.setCell ⟨b, o, none⟩ v) (h.setCell hb v) hb
theorem size_setCells (b : Nat) : ∀ (vs : List Value) (o : Nat) (w : World), (w.setCells b o vs).heap.size = w.heap.size
  | [], _, _ => rfl
  | v :: vs, o, w => by rw [World.setCells, size_setCells b vs (o + 1)]; simp
theorem made_of (w : World) (c0 c1 : Array Value) (t0 t1 : TypeId) (h0 : c0.size = 3) (h1 : c1.size = 42) : Made w (((w.alloc (.cells c0 t0)).alloc (.cells c1 t1)).setCells (w.heap.size + 1) 0 tab.toList) := by
  have hin : ∀ j, j < tab.toList.length → (((w.alloc (.cells c0 t0)).alloc (.cells c1 t1)).cell? ⟨w.heap.size + 1, 0 + j, none⟩).isSome = true := by
    intro j hj
    have hl : tab.toList.length = 42 := by rw [Array.length_toList, tab_size]
    rw [World.cell?_alloc_at _ _ _ _ (by simp), Nat.zero_add]
    simp only [Option.isSome_iff_exists]
    exact ⟨c1[j]'(by omega), by simp [show j < c1.size by omega]⟩
  refine ⟨fun j hj => ?_, fun k hk => ?_, fun k => ?_, ?_, ?_⟩
  · have hl : tab.toList.length = 42 := by rw [Array.length_toList, tab_size]
    have := World.cell?_setCells_in (w.heap.size + 1) tab.toList 0 _ hin j (by omega)
    rw [Nat.zero_add] at this
    rw [this]
    simp
  · rw [World.cell?_setCells_out _ _ _ _ _ (by intro e; simp at e)]
    rw [World.cell?_alloc_past _ _ _ (by simp), World.cell?_alloc_at _ _ _ _ rfl]
    simp only [Option.isSome_iff_exists]
    exact ⟨c0[k]'(by omega), by simp [show k < c0.size by omega]⟩
  · rw [World.frozen?_setCells, World.frozen?_alloc_past _ _ _ (by simp)]
    exact World.frozen?_alloc_at _ _ _ _ rfl
  · exact below_setCells _ _ _ _ _ _ (((Below.refl _ _).alloc (Nat.le_refl _) _).alloc (by simp) _) (by omega)
  · rw [size_setCells]; simp
theorem there_of (w : World) (c0 c1 : Array Value) (t0 t1 : TypeId) (h1 : c1.size = 42) : ((w.alloc (.cells c0 t0)).alloc (.cells c1 t1)).there (w.heap.size + 1) 0 tab.size := by
  intro j hj
  rw [tab_size] at hj
  rw [Nat.zero_add, World.cell?_alloc_at _ _ _ _ (by simp), World.frozen?_alloc_at _ _ _ _ (by simp)]
  simp only [Option.isSome_iff_exists]
  exact ⟨⟨c1[j]'(by omega), by simp [show j < c1.size by omega]⟩, trivial⟩
set_option maxHeartbeats 2000000 in
set_option maxRecDepth 100000 in
theorem trait_any (r : Int) (w : World) (h1 : 1 ≤ r) (h2 : r ≤ 13) :
    Calls Tryd.prog 25 #[.int .i64 r] w fun e w' =>
      e = .returned (.agg #[.string (tName r), .int .i64 (tKind r), .int .i64 (tNums r)]) ∧ Below w.heap.size w w' := by
  go_enter Tryd.func25, Tryd.ntmps25
  go_upto_region 1 with fail
  go_cut [3] (fun p wc => p = .pointer (some ⟨w.heap.size + 1, 0, none⟩) ∧ Made w wc)
  case first =>
    iterate 46 go_step
    refine wpList_store_mid rfl 76 (.tmp 3) (.tmp 17) rfl (w.heap.size + 1) 0 tab rfl rfl (there_of _ _ _ _ _ rfl) info_tab tab_one ?_
    have M := made_of w #[.string ⟨#[]⟩, .int .i64 0, .int .i64 0] #[.string ⟨#[]⟩, .int .i64 0, .int .i64 0, .string ⟨#[]⟩, .int .i64 0, .int .i64 0, .string ⟨#[]⟩, .int .i64 0, .int .i64 0, .string ⟨#[]⟩, .int .i64 0, .int .i64 0, .string ⟨#[]⟩, .int .i64 0, .int .i64 0, .string ⟨#[]⟩, .int .i64 0, .int .i64 0, .string ⟨#[]⟩, .int .i64 0, .int .i64 0, .string ⟨#[]⟩, .int .i64 0, .int .i64 0, .string ⟨#[]⟩, .int .i64 0, .int .i64 0, .string ⟨#[]⟩, .int .i64 0, .int .i64 0, .string ⟨#[]⟩, .int .i64 0, .int .i64 0, .string ⟨#[]⟩, .int .i64 0, .int .i64 0, .string ⟨#[]⟩, .int .i64 0, .int .i64 0, .string ⟨#[]⟩, .int .i64 0, .int .i64 0] 61 76 rfl rfl
    generalize World.setCells _ _ _ _ = W2 at M ⊢
    go_wp2_with fail
    go_meet
    case rel => exact ⟨rfl, M⟩
  case rest =>
    obtain ⟨rfl, M⟩ := hcut
    obtain ⟨z0, e0⟩ := Option.isSome_iff_exists.1 (M.res 0 (by decide))
    obtain ⟨z1, e1⟩ := Option.isSome_iff_exists.1 (M.res 1 (by decide))
    obtain ⟨z2, e2⟩ := Option.isSome_iff_exists.1 (M.res 2 (by decide))
    have fz := M.free
    have hr : r = 1 ∨ r = 2 ∨ r = 3 ∨ r = 4 ∨ r = 5 ∨ r = 6 ∨ r = 7 ∨ r = 8 ∨ r = 9 ∨ r = 10 ∨ r = 11 ∨ r = 12 ∨ r = 13 := by omega
    have hsz := M.size
    clear h1 h2
    rcases hr with rfl | rfl | rfl | rfl | rfl | rfl | rfl | rfl | rfl | rfl | rfl | rfl | rfl
    · have c0 : wc.cell? ⟨w.heap.size + 1, 3, none⟩ = some (.string ⟨#[102, 114, 101, 101]⟩) := (M.cell 3 (by decide)).trans rfl
      have c1 : wc.cell? ⟨w.heap.size + 1, 4, none⟩ = some (.int .i64 0) := (M.cell 4 (by decide)).trans rfl
      have c2 : wc.cell? ⟨w.heap.size + 1, 5, none⟩ = some (.int .i64 0) := (M.cell 5 (by decide)).trans rfl
      go_wp2_with fail
      refine bodyPost_ret (v := .agg #[.string ⟨#[102, 114, 101, 101]⟩, .int .i64 0, .int .i64 0]) (by simp [results, Tryd.results25, go_sem, e0, e1, e2]) rfl ⟨?_, ?_⟩
      · simp [tName, tKind, tNums]
      exact ((M.below.setCell (by simp) _).setCell (by simp) _).setCell (by simp) _
    · have c0 : wc.cell? ⟨w.heap.size + 1, 6, none⟩ = some (.string ⟨#[99, 101, 108, 108]⟩) := (M.cell 6 (by decide)).trans rfl
      have c1 : wc.cell? ⟨w.heap.size + 1, 7, none⟩ = some (.int .i64 1) := (M.cell 7 (by decide)).trans rfl
      have c2 : wc.cell? ⟨w.heap.size + 1, 8, none⟩ = some (.int .i64 0) := (M.cell 8 (by decide)).trans rfl
      go_wp2_with fail
      refine bodyPost_ret (v := .agg #[.string ⟨#[99, 101, 108, 108]⟩, .int .i64 1, .int .i64 0]) (by simp [results, Tryd.results25, go_sem, e0, e1, e2]) rfl ⟨?_, ?_⟩
      · simp [tName, tKind, tNums]
      exact ((M.below.setCell (by simp) _).setCell (by simp) _).setCell (by simp) _
    · have c0 : wc.cell? ⟨w.heap.size + 1, 9, none⟩ = some (.string ⟨#[116, 111, 112]⟩) := (M.cell 9 (by decide)).trans rfl
      have c1 : wc.cell? ⟨w.heap.size + 1, 10, none⟩ = some (.int .i64 1) := (M.cell 10 (by decide)).trans rfl
      have c2 : wc.cell? ⟨w.heap.size + 1, 11, none⟩ = some (.int .i64 0) := (M.cell 11 (by decide)).trans rfl
      go_wp2_with fail
      refine bodyPost_ret (v := .agg #[.string ⟨#[116, 111, 112]⟩, .int .i64 1, .int .i64 0]) (by simp [results, Tryd.results25, go_sem, e0, e1, e2]) rfl ⟨?_, ?_⟩
      · simp [tName, tKind, tNums]
      exact ((M.below.setCell (by simp) _).setCell (by simp) _).setCell (by simp) _
    · have c0 : wc.cell? ⟨w.heap.size + 1, 12, none⟩ = some (.string ⟨#[104, 101, 97, 100]⟩) := (M.cell 12 (by decide)).trans rfl
      have c1 : wc.cell? ⟨w.heap.size + 1, 13, none⟩ = some (.int .i64 1) := (M.cell 13 (by decide)).trans rfl
      have c2 : wc.cell? ⟨w.heap.size + 1, 14, none⟩ = some (.int .i64 0) := (M.cell 14 (by decide)).trans rfl
      go_wp2_with fail
      refine bodyPost_ret (v := .agg #[.string ⟨#[104, 101, 97, 100]⟩, .int .i64 1, .int .i64 0]) (by simp [results, Tryd.results25, go_sem, e0, e1, e2]) rfl ⟨?_, ?_⟩
      · simp [tName, tKind, tNums]
      exact ((M.below.setCell (by simp) _).setCell (by simp) _).setCell (by simp) _
    · have c0 : wc.cell? ⟨w.heap.size + 1, 15, none⟩ = some (.string ⟨#[116, 97, 105, 108]⟩) := (M.cell 15 (by decide)).trans rfl
      have c1 : wc.cell? ⟨w.heap.size + 1, 16, none⟩ = some (.int .i64 1) := (M.cell 16 (by decide)).trans rfl
      have c2 : wc.cell? ⟨w.heap.size + 1, 17, none⟩ = some (.int .i64 0) := (M.cell 17 (by decide)).trans rfl
      go_wp2_with fail
      refine bodyPost_ret (v := .agg #[.string ⟨#[116, 97, 105, 108]⟩, .int .i64 1, .int .i64 0]) (by simp [results, Tryd.results25, go_sem, e0, e1, e2]) rfl ⟨?_, ?_⟩
      · simp [tName, tKind, tNums]
      exact ((M.below.setCell (by simp) _).setCell (by simp) _).setCell (by simp) _
    · have c0 : wc.cell? ⟨w.heap.size + 1, 18, none⟩ = some (.string ⟨#[114, 111, 111, 116]⟩) := (M.cell 18 (by decide)).trans rfl
      have c1 : wc.cell? ⟨w.heap.size + 1, 19, none⟩ = some (.int .i64 1) := (M.cell 19 (by decide)).trans rfl
      have c2 : wc.cell? ⟨w.heap.size + 1, 20, none⟩ = some (.int .i64 0) := (M.cell 20 (by decide)).trans rfl
      go_wp2_with fail
      refine bodyPost_ret (v := .agg #[.string ⟨#[114, 111, 111, 116]⟩, .int .i64 1, .int .i64 0]) (by simp [results, Tryd.results25, go_sem, e0, e1, e2]) rfl ⟨?_, ?_⟩
      · simp [tName, tKind, tNums]
      exact ((M.below.setCell (by simp) _).setCell (by simp) _).setCell (by simp) _
    · have c0 : wc.cell? ⟨w.heap.size + 1, 21, none⟩ = some (.string ⟨#[98, 117, 99, 107, 101, 116]⟩) := (M.cell 21 (by decide)).trans rfl
      have c1 : wc.cell? ⟨w.heap.size + 1, 22, none⟩ = some (.int .i64 1) := (M.cell 22 (by decide)).trans rfl
      have c2 : wc.cell? ⟨w.heap.size + 1, 23, none⟩ = some (.int .i64 1) := (M.cell 23 (by decide)).trans rfl
      go_wp2_with fail
      refine bodyPost_ret (v := .agg #[.string ⟨#[98, 117, 99, 107, 101, 116]⟩, .int .i64 1, .int .i64 1]) (by simp [results, Tryd.results25, go_sem, e0, e1, e2]) rfl ⟨?_, ?_⟩
      · simp [tName, tKind, tNums]
      exact ((M.below.setCell (by simp) _).setCell (by simp) _).setCell (by simp) _
    · have c0 : wc.cell? ⟨w.heap.size + 1, 24, none⟩ = some (.string ⟨#[97, 99, 116, 105, 118, 101]⟩) := (M.cell 24 (by decide)).trans rfl
      have c1 : wc.cell? ⟨w.heap.size + 1, 25, none⟩ = some (.int .i64 2) := (M.cell 25 (by decide)).trans rfl
      have c2 : wc.cell? ⟨w.heap.size + 1, 26, none⟩ = some (.int .i64 1) := (M.cell 26 (by decide)).trans rfl
      go_wp2_with fail
      refine bodyPost_ret (v := .agg #[.string ⟨#[97, 99, 116, 105, 118, 101]⟩, .int .i64 2, .int .i64 1]) (by simp [results, Tryd.results25, go_sem, e0, e1, e2]) rfl ⟨?_, ?_⟩
      · simp [tName, tKind, tNums]
      exact ((M.below.setCell (by simp) _).setCell (by simp) _).setCell (by simp) _
    · have c0 : wc.cell? ⟨w.heap.size + 1, 27, none⟩ = some (.string ⟨#[104, 97, 122, 97, 114, 100]⟩) := (M.cell 27 (by decide)).trans rfl
      have c1 : wc.cell? ⟨w.heap.size + 1, 28, none⟩ = some (.int .i64 1) := (M.cell 28 (by decide)).trans rfl
      have c2 : wc.cell? ⟨w.heap.size + 1, 29, none⟩ = some (.int .i64 2) := (M.cell 29 (by decide)).trans rfl
      go_wp2_with fail
      refine bodyPost_ret (v := .agg #[.string ⟨#[104, 97, 122, 97, 114, 100]⟩, .int .i64 1, .int .i64 2]) (by simp [results, Tryd.results25, go_sem, e0, e1, e2]) rfl ⟨?_, ?_⟩
      · simp [tName, tKind, tNums]
      exact ((M.below.setCell (by simp) _).setCell (by simp) _).setCell (by simp) _
    · have c0 : wc.cell? ⟨w.heap.size + 1, 30, none⟩ = some (.string ⟨#[115, 112, 97, 114, 101]⟩) := (M.cell 30 (by decide)).trans rfl
      have c1 : wc.cell? ⟨w.heap.size + 1, 31, none⟩ = some (.int .i64 1) := (M.cell 31 (by decide)).trans rfl
      have c2 : wc.cell? ⟨w.heap.size + 1, 32, none⟩ = some (.int .i64 1) := (M.cell 32 (by decide)).trans rfl
      go_wp2_with fail
      refine bodyPost_ret (v := .agg #[.string ⟨#[115, 112, 97, 114, 101]⟩, .int .i64 1, .int .i64 1]) (by simp [results, Tryd.results25, go_sem, e0, e1, e2]) rfl ⟨?_, ?_⟩
      · simp [tName, tKind, tNums]
      exact ((M.below.setCell (by simp) _).setCell (by simp) _).setCell (by simp) _
    · have c0 : wc.cell? ⟨w.heap.size + 1, 33, none⟩ = some (.string ⟨#[118, 97, 108, 117, 101]⟩) := (M.cell 33 (by decide)).trans rfl
      have c1 : wc.cell? ⟨w.heap.size + 1, 34, none⟩ = some (.int .i64 3) := (M.cell 34 (by decide)).trans rfl
      have c2 : wc.cell? ⟨w.heap.size + 1, 35, none⟩ = some (.int .i64 1) := (M.cell 35 (by decide)).trans rfl
      go_wp2_with fail
      refine bodyPost_ret (v := .agg #[.string ⟨#[118, 97, 108, 117, 101]⟩, .int .i64 3, .int .i64 1]) (by simp [results, Tryd.results25, go_sem, e0, e1, e2]) rfl ⟨?_, ?_⟩
      · simp [tName, tKind, tNums]
      exact ((M.below.setCell (by simp) _).setCell (by simp) _).setCell (by simp) _
    · have c0 : wc.cell? ⟨w.heap.size + 1, 36, none⟩ = some (.string ⟨#[100, 97, 116, 97]⟩) := (M.cell 36 (by decide)).trans rfl
      have c1 : wc.cell? ⟨w.heap.size + 1, 37, none⟩ = some (.int .i64 3) := (M.cell 37 (by decide)).trans rfl
      have c2 : wc.cell? ⟨w.heap.size + 1, 38, none⟩ = some (.int .i64 1) := (M.cell 38 (by decide)).trans rfl
      go_wp2_with fail
      refine bodyPost_ret (v := .agg #[.string ⟨#[100, 97, 116, 97]⟩, .int .i64 3, .int .i64 1]) (by simp [results, Tryd.results25, go_sem, e0, e1, e2]) rfl ⟨?_, ?_⟩
      · simp [tName, tKind, tNums]
      exact ((M.below.setCell (by simp) _).setCell (by simp) _).setCell (by simp) _
    · have c0 : wc.cell? ⟨w.heap.size + 1, 39, none⟩ = some (.string ⟨#[108, 105, 110, 107]⟩) := (M.cell 39 (by decide)).trans rfl
      have c1 : wc.cell? ⟨w.heap.size + 1, 40, none⟩ = some (.int .i64 4) := (M.cell 40 (by decide)).trans rfl
      have c2 : wc.cell? ⟨w.heap.size + 1, 41, none⟩ = some (.int .i64 1) := (M.cell 41 (by decide)).trans rfl
      go_wp2_with fail
      refine bodyPost_ret (v := .agg #[.string ⟨#[108, 105, 110, 107]⟩, .int .i64 4, .int .i64 1]) (by simp [results, Tryd.results25, go_sem, e0, e1, e2]) rfl ⟨?_, ?_⟩
      · simp [tName, tKind, tNums]
      exact ((M.below.setCell (by simp) _).setCell (by simp) _).setCell (by simp) _
end Go.Proofs.YtpmpdkpnjfidhaaDoor.Tr
