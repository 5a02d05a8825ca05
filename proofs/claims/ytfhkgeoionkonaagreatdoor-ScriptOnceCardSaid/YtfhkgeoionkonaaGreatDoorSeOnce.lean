/-
  SCRIPT: ScriptOnce.
-/
import Derived.Test.YtfhkgeoionkonaaGreatDoorSeEx
import Derived.Test.YtfhkgeoionkonaaGreatDoorSeP
import Derived.Test.YtfhkgeoionkonaaGreatDoorScAw
namespace Go.Proofs.YtfhkgeoionkonaaGreatDoor.Sc
open Go.RowKit Mr
set_option linter.unusedVariables false
set_option linter.unusedSimpArgs false
set_option maxRecDepth 100000
/-- What Print and Parse come to, of a configuration that may be. -/
theorem both_X (c : Cf) (ms : List Mv) (hc : cfgC c = true) (hm : ∀ m ∈ ms, MvB m) (hl : ms.length ≤ 65536) : (prE (cfgC c) (cfL c) ms = 3 ∧ 100 < ms.length) ∨ (prE (cfgC c) (cfL c) ms = 0 ∧ ∃ l, prT (cfgC c) (cfL c) ms = ⟨l.toArray⟩ ∧ parseO l = some (c, ms)) := by
  by_cases ht : (prints (cfL c) ms).length ≤ 1048576
  · right
    unfold prE prT
    rw [if_pos hc, if_pos hc, if_pos hl, if_pos hl, if_pos ht, if_pos ht]
    exact ⟨rfl, _, rfl, back c ms hc hm hl ht⟩
  · left
    unfold prE
    rw [if_pos hc, if_pos hl, if_neg ht]
    refine ⟨rfl, ?_⟩
    by_cases h : ms.length ≤ 100
    · exact absurd (prints_len c ms hc hm h) ht
    · omega
theorem parseX_ne {l : List UInt8} {k : Nat} {n : Int} (h : parseX l = .inl (k, n)) : n ≠ 0 := by
  unfold parseX at h
  split at h
  · cases hp : prX l.length 1 l (cfZ, []) with
    | inl x =>
      rw [hp] at h
      injection h with h
      subst h
      have := prX_inl l.length l _ 1 _ _ (Nat.le_refl _) hp
      omega
    | inr st =>
      rw [hp] at h
      dsimp only at h
      split at h
      · injection h with h
        injection h with h1 h2
        omega
      · cases h
  · injection h with h
    injection h with h1 h2
    omega
def z7 : Array Value := #[.int .i64 0, .int .i64 0, .int .i64 0, .int .i64 0, .int .i64 0, .int .i64 0, .int .i64 0]
set_option maxHeartbeats 16000000 in
theorem once_err (l : List UInt8) (k : Nat) (n : Int) (w : World) (V : EnvX w) (hx : parseX l = .inl (k, n)) :
    Calls Tryz.prog 3 #[.string ⟨l.toArray⟩] w fun e w' => e = .returned (.bool true) ∧ Below w.heap.size w w' := by
  have PS := Mr.hid (Parse_err l k n w V.env V.et hx)
  have hn := parseX_ne hx
  have kn : (n == 0) = false := beq_eq_false_iff_ne.2 hn
  have AW := Mr.hid (fun W (hB : Below w.heap.size w W) => awake_any W (V.env.below hB))
  unfold PeA cfV cfZ at PS
  dsimp only at PS
  generalize (⟨l.toArray⟩ : ByteArray) = X at *
  clear hx V
  go_enter Tryz.func3, Tryz.ntmps3
  go_upto_region 2 with (go_at_call 9; refine PS.out.mono ?_; clear PS; rintro e w1 ⟨rfl, B1⟩; replace B1 := Mr.hid B1)
  have B2 : Below w.heap.size w (w1.alloc (.cells #[.int .i64 0, .int .i64 0, .int .i64 0, .int .i64 0, .int .i64 0, .int .i64 0, .int .i64 0] 23)) := B1.out.alloc B1.out.size _
  have A2 := Mr.hid (AW.out _ B2)
  replace B2 := Mr.hid B2
  clear AW B1
  go_wp2_with (go_at_call 10; refine A2.out.mono ?_; clear A2; rintro e w3 ⟨rfl, B3⟩; replace B3 := Mr.hid B3)
  go_ret
  exact ⟨rfl, B2.out.trans (B3.out.mono B2.out.size)⟩
set_option maxHeartbeats 16000000 in
theorem once_ok (l : List UInt8) (c0 c1 c2 c3 c4 c5 c6 : Int) (ms : List Mv) (w : World) (V : EnvX w) (hx : parseX l = .inr (⟨c0, c1, c2, c3, c4, c5, c6⟩, ms)) :
    Calls Tryz.prog 3 #[.string ⟨l.toArray⟩] w fun e w' => e = .returned (.bool true) ∧ Below w.heap.size w w' := by
  obtain ⟨hcd, hl, hm⟩ := parseX_good hx
  have E := V.env
  have PS0 := Mr.hid (Parse_ok l (⟨c0, c1, c2, c3, c4, c5, c6⟩, ms) w E (parseX_inr hx))
  have AW := Mr.hid (fun W (hB : Below w.heap.size w W) => awake_any W (E.below hB))
  have PR := Mr.hid (fun W a cap (hB : Below w.heap.size w W) (hM : MvAt W a ms.length ms) (hcap : ms.length ≤ cap) => Print_any c0 c1 c2 c3 c4 c5 c6 a ms.length cap ms W (E.below hB) hM hm (by obtain ⟨b0, b1, b2, b3, b4, b5, b6⟩ := cf_bd hcd; intro x hx; simp only [List.mem_cons, List.not_mem_nil, or_false] at hx; rcases hx with rfl | rfl | rfl | rfl | rfl | rfl | rfl <;> assumption) hcap)
  have PS := Mr.hid (fun (l : List UInt8) (hp : parseO l = some (⟨c0, c1, c2, c3, c4, c5, c6⟩, ms)) W (hB : Below w.heap.size w W) => Parse_ok l (⟨c0, c1, c2, c3, c4, c5, c6⟩, ms) W (E.below hB) hp)
  have BO := both_X ⟨c0, c1, c2, c3, c4, c5, c6⟩ ms hcd hm hl
  have SM := Mr.hid (fun W a a' c c' (h1 : MvAt W a ms.length ms) (h2 : MvAt W a' ms.length ms) => sameMoves_eq ms a a' ms.length c c' W h1 h2 (by omega))
  unfold cfgC cfL at BO
  dsimp only at BO
  unfold PaA cfV at PS PS0
  dsimp only at PS PS0
  obtain ⟨PT, hPT⟩ : ∃ X, prT (Wc.cfgB c0 c1 c2 c3 c4 c5 c6) [c0, c1, c2, c3, c4, c5, c6] ms = X := ⟨_, rfl⟩
  obtain ⟨PE, hPE⟩ : ∃ X, prE (Wc.cfgB c0 c1 c2 c3 c4 c5 c6) [c0, c1, c2, c3, c4, c5, c6] ms = X := ⟨_, rfl⟩
  rw [hPT, hPE] at PR BO
  generalize (⟨l.toArray⟩ : ByteArray) = X at *
  obtain ⟨n, hnl⟩ : ∃ n, ms.length = n := ⟨_, rfl⟩
  rw [hnl] at PR PS PS0 SM BO
  clear hPT hPE hm hcd E hl V hx
  replace hnl := Mr.hid hnl
  go_enter Tryz.func3, Tryz.ntmps3
  go_upto_region 2 with (go_at_call 9; refine PS0.out.mono ?_; clear PS0; rintro e w1 ⟨v, rfl, hv, B1⟩)
  obtain ⟨av, cv, rfl, hcv⟩ := hv.form
  have B2 : Below w.heap.size w (w1.alloc (.cells #[.int .i64 c0, .int .i64 c1, .int .i64 c2, .int .i64 c3, .int .i64 c4, .int .i64 c5, .int .i64 c6] 23)) := B1.alloc B1.size _
  have hv2 := hv.alloc (.cells #[.int .i64 c0, .int .i64 c1, .int .i64 c2, .int .i64 c3, .int .i64 c4, .int .i64 c5, .int .i64 c6] 23)
  have hbx2 : (w1.alloc (.cells #[.int .i64 c0, .int .i64 c1, .int .i64 c2, .int .i64 c3, .int .i64 c4, .int .i64 c5, .int .i64 c6] 23)).heap[w1.heap.size]? = some (.cells #[.int .i64 c0, .int .i64 c1, .int .i64 c2, .int .i64 c3, .int .i64 c4, .int .i64 c5, .int .i64 c6] 23 (0, 0)) := new_at _ _ _ rfl
  have A2 := Mr.hid (AW.out _ B2)
  have l2 := (Array.getElem?_eq_some_iff.1 hbx2).1
  replace B2 := Mr.hid B2
  replace hv2 := Mr.hid hv2
  replace hbx2 := Mr.hid hbx2
  generalize w1.heap.size = b3 at *
  generalize w1.alloc (.cells #[.int .i64 c0, .int .i64 c1, .int .i64 c2, .int .i64 c3, .int .i64 c4, .int .i64 c5, .int .i64 c6] 23) = w2 at *
  clear AW hv B1
  go_upto_region 6 with (go_at_call 10; refine A2.out.mono ?_; clear A2; rintro e w3 ⟨rfl, B3⟩)
  have BB3 : Below w.heap.size w w3 := B2.out.trans (B3.mono B2.out.size)
  have hv3 := hv2.out.below B3
  have hbx3 : w3.heap[b3]? = some (.cells #[.int .i64 c0, .int .i64 c1, .int .i64 c2, .int .i64 c3, .int .i64 c4, .int .i64 c5, .int .i64 c6] 23 (0, 0)) := (B3.block _ l2).trans hbx2.out
  have P3 := Mr.hid (PR.out w3 av cv BB3 (MvAt.of hv3) hcv)
  have x0 := cell_blk hbx3 0
  have x1 := cell_blk hbx3 1
  have x2 := cell_blk hbx3 2
  have x3 := cell_blk hbx3 3
  have x4 := cell_blk hbx3 4
  have x5 := cell_blk hbx3 5
  have x6 := cell_blk hbx3 6
  have l3 := (Array.getElem?_eq_some_iff.1 hbx3).1
  replace BB3 := Mr.hid BB3
  replace hv3 := Mr.hid hv3
  replace hbx3 := Mr.hid hbx3
  clear B3 hv2 hbx2 B2 l2
  rcases BO with ⟨e1, e2⟩ | ⟨e1, l', e2, e3⟩
  · subst e1
    have d9 : decide ((100 : Int) < (n : Int)) = true := by simp; omega
    have d8 : (100 : Int) < (n : Int) := by omega
    clear e2 PS PR SM
    go_wp2_with (go_at_call 11; refine P3.out.mono ?_; clear P3; rintro e w4 ⟨rfl, B4⟩; replace B4 := Mr.hid B4)
    go_ret
    exact ⟨by simp [d9], BB3.out.trans (B4.out.mono BB3.out.size)⟩
  · subst e1
    subst e2
    go_upto_region 9 with (go_at_call 11; refine P3.out.mono ?_; clear P3; rintro e w4 ⟨rfl, B4⟩)
    have BB4 : Below w.heap.size w w4 := BB3.out.trans (B4.mono BB3.out.size)
    have hv4 := hv3.out.below B4
    have hbx4 : w4.heap[b3]? = some (.cells #[.int .i64 c0, .int .i64 c1, .int .i64 c2, .int .i64 c3, .int .i64 c4, .int .i64 c5, .int .i64 c6] 23 (0, 0)) := (B4.block _ l3).trans hbx3.out
    have S4 := Mr.hid (PS.out l' e3 w4 BB4)
    have l4 := (Array.getElem?_eq_some_iff.1 hbx4).1
    replace BB4 := Mr.hid BB4
    replace hv4 := Mr.hid hv4
    replace hbx4 := Mr.hid hbx4
    clear x0 x1 x2 x3 x4 x5 x6 l3 BB3 hv3 hbx3 B4 PS e3
    generalize (⟨l'.toArray⟩ : ByteArray) = Y at *
    go_upto_region 10 with (go_at_call 9; refine S4.out.mono ?_; clear S4; rintro e w5 ⟨u, rfl, hu, B5⟩)
    obtain ⟨au, cu, rfl, hcu⟩ := hu.form
    have BB5 : Below w.heap.size w w5 := BB4.out.trans (B5.mono BB4.out.size)
    have hv5 := (hv4.out.below B5).alloc (.cells #[.int .i64 c0, .int .i64 c1, .int .i64 c2, .int .i64 c3, .int .i64 c4, .int .i64 c5, .int .i64 c6] 23)
    have hu5 := hu.alloc (.cells #[.int .i64 c0, .int .i64 c1, .int .i64 c2, .int .i64 c3, .int .i64 c4, .int .i64 c5, .int .i64 c6] 23)
    have BB6 : Below w.heap.size w (w5.alloc (.cells #[.int .i64 c0, .int .i64 c1, .int .i64 c2, .int .i64 c3, .int .i64 c4, .int .i64 c5, .int .i64 c6] 23)) := BB5.alloc BB5.size _
    have hby6 : (w5.alloc (.cells #[.int .i64 c0, .int .i64 c1, .int .i64 c2, .int .i64 c3, .int .i64 c4, .int .i64 c5, .int .i64 c6] 23)).heap[w5.heap.size]? = some (.cells #[.int .i64 c0, .int .i64 c1, .int .i64 c2, .int .i64 c3, .int .i64 c4, .int .i64 c5, .int .i64 c6] 23 (0, 0)) := new_at _ _ _ rfl
    have hbx6 : (w5.alloc (.cells #[.int .i64 c0, .int .i64 c1, .int .i64 c2, .int .i64 c3, .int .i64 c4, .int .i64 c5, .int .i64 c6] 23)).heap[b3]? = some (.cells #[.int .i64 c0, .int .i64 c1, .int .i64 c2, .int .i64 c3, .int .i64 c4, .int .i64 c5, .int .i64 c6] 23 (0, 0)) := (Lib.alloc_old w5 _ _ (Nat.lt_of_lt_of_le l4 B5.size)).trans ((B5.block _ l4).trans hbx4.out)
    generalize w5.heap.size = b8 at *
    generalize w5.alloc (.cells #[.int .i64 c0, .int .i64 c1, .int .i64 c2, .int .i64 c3, .int .i64 c4, .int .i64 c5, .int .i64 c6] 23) = w6 at *
    have P6 := Mr.hid (PR.out w6 au cu BB6 (MvAt.of hu5) hcu)
    have y0 := cell_blk hby6 0
    have y1 := cell_blk hby6 1
    have y2 := cell_blk hby6 2
    have y3 := cell_blk hby6 3
    have y4 := cell_blk hby6 4
    have y5 := cell_blk hby6 5
    have y6 := cell_blk hby6 6
    have ly := (Array.getElem?_eq_some_iff.1 hby6).1
    have lx := (Array.getElem?_eq_some_iff.1 hbx6).1
    replace BB6 := Mr.hid BB6
    replace hv5 := Mr.hid hv5
    replace hu5 := Mr.hid hu5
    replace hbx6 := Mr.hid hbx6
    replace hby6 := Mr.hid hby6
    clear hu B5 BB5 BB4 hv4 hbx4 l4 PR
    go_upto_region 11 with (go_at_call 11; refine P6.out.mono ?_; clear P6; rintro e w7 ⟨rfl, B7⟩)
    have BB7 : Hid (Below w.heap.size w w7) := BB6.out.trans (B7.mono BB6.out.size)
    have SS := Mr.hid (SM.out w7 au av cu cv (MvAt.of (hu5.out.below B7)) (MvAt.of (hv5.out.below B7)))
    have hby7 : w7.heap[b8]? = some (.cells #[.int .i64 c0, .int .i64 c1, .int .i64 c2, .int .i64 c3, .int .i64 c4, .int .i64 c5, .int .i64 c6] 23 (0, 0)) := (B7.block _ ly).trans hby6.out
    have hbx7 : w7.heap[b3]? = some (.cells #[.int .i64 c0, .int .i64 c1, .int .i64 c2, .int .i64 c3, .int .i64 c4, .int .i64 c5, .int .i64 c6] 23 (0, 0)) := (B7.block _ lx).trans hbx6.out
    clear y0 y1 y2 y3 y4 y5 y6
    have y0 := cell_blk hby7 0
    have y1 := cell_blk hby7 1
    have y2 := cell_blk hby7 2
    have y3 := cell_blk hby7 3
    have y4 := cell_blk hby7 4
    have y5 := cell_blk hby7 5
    have y6 := cell_blk hby7 6
    have z0 := cell_blk hbx7 0
    have z1 := cell_blk hbx7 1
    have z2 := cell_blk hbx7 2
    have z3 := cell_blk hbx7 3
    have z4 := cell_blk hbx7 4
    have z5 := cell_blk hbx7 5
    have z6 := cell_blk hbx7 6
    have ly7 := (Array.getElem?_eq_some_iff.1 hby7).1
    have lx7 := (Array.getElem?_eq_some_iff.1 hbx7).1
    clear ly lx hby7 hbx7 hby6 hbx6 hu5 hv5 BB6 B7 SM
    go_wp2_with (go_at_call 12; refine SS.out.mono ?_; clear SS; rintro e w8 ⟨rfl, B8⟩; replace B8 := Mr.hid B8)
    go_ret
    exact ⟨by simp, BB7.out.trans (B8.out.mono BB7.out.size)⟩
theorem law_once (s : ByteArray) (w : World) (hz : s.size ≤ 281474976710656) (V : EnvX w) :
    Calls Tryz.prog 3 #[.string s] w fun e w' => e = .returned (.bool true) ∧ Below w.heap.size w w' := by
  have e : s = ⟨s.data.toList.toArray⟩ := by simp
  rw [e]
  cases h : parseX s.data.toList with
  | inl x => exact once_err _ x.1 x.2 w V h
  | inr fin =>
    obtain ⟨⟨c0, c1, c2, c3, c4, c5, c6⟩, ms⟩ := fin
    exact once_ok _ c0 c1 c2 c3 c4 c5 c6 ms w V h
end Go.Proofs.YtfhkgeoionkonaaGreatDoor.Sc
