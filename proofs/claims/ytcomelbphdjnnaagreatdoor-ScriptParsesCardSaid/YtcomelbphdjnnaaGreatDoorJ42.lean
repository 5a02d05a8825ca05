import Derived.Test.YtcomelbphdjnnaaGreatDoorJ41
import Derived.Test.YtcomelbphdjnnaaGreatDoorJ18
import Derived.Test.YtcomelbphdjnnaaGreatDoorJ33
import Derived.Test.YtcomelbphdjnnaaGreatDoorJ36
/-
  SCRIPT: ScriptParses.
-/
namespace Go.Proofs.YtcomelbphdjnnaaGreatDoor.Sc
open Go.RowKit Mr
set_option linter.unusedVariables false
set_option linter.unusedSimpArgs false
set_option maxRecDepth 100000
theorem rParse_any (l : List UInt8) (w : World) : Calls Tryz.prog 11 #[.string ⟨l.toArray⟩] w (PxA w (parseX l)) := by
  have hsz : (⟨l.toArray⟩ : ByteArray).size = l.length := by simp [ByteArray.size]
  have hl : (⟨l.toArray⟩ : ByteArray).data.toList = l := by simp
  by_cases h : l.length ≤ 1048576
  · refine rParse_in ⟨l.toArray⟩ w (by rw [hsz]; exact h) _ ?_
    rw [hl]
    unfold parseX
    rw [if_pos h]
    cases prX l.length 1 l (cfZ, []) <;> rfl
  · have e : parseX l = .inl (0, 3) := by unfold parseX; rw [if_neg h]
    rw [e]
    exact rParse_long ⟨l.toArray⟩ w (by rw [hsz]; exact h)
set_option maxHeartbeats 16000000 in
theorem parses_err (l : List UInt8) (k : Nat) (n : Int) (w : World) (V : EnvX w) (hx : parseX l = .inl (k, n)) :
    Calls Tryz.prog 4 #[.string ⟨l.toArray⟩] w fun e w' => e = .returned (.bool true) ∧ Below w.heap.size w w' := by
  have PS := Mr.hid (Parse_err l k n w V.env V.et hx)
  have RP : Hid (∀ W, Calls Tryz.prog 11 #[.string ⟨l.toArray⟩] W (PeA W k n)) := fun W => by have := rParse_any l W; rw [hx] at this; exact this
  have AW := Mr.hid (fun W (hB : Below w.heap.size w W) => awake_any W (V.env.below hB))
  have SM := Mr.hid (fun W => sameMoves_eq [] none none 0 0 0 W ⟨rfl, .inl rfl⟩ ⟨rfl, .inl rfl⟩ (by decide))
  unfold PeA cfV cfZ at PS RP
  dsimp only at PS RP
  generalize (⟨l.toArray⟩ : ByteArray) = X at *
  clear hx V
  go_enter Tryz.func4, Tryz.ntmps4
  go_upto_region 2 with (go_at_call 10; refine PS.out.mono ?_; clear PS; rintro e w1 ⟨rfl, B1⟩)
  have B2 : Below w.heap.size w (w1.alloc (.cells #[.int .i64 0, .int .i64 0, .int .i64 0, .int .i64 0, .int .i64 0, .int .i64 0, .int .i64 0] 23)) := B1.alloc B1.size _
  have hb2 : (w1.alloc (.cells #[.int .i64 0, .int .i64 0, .int .i64 0, .int .i64 0, .int .i64 0, .int .i64 0, .int .i64 0] 23)).heap[w1.heap.size]? = some (.cells #[.int .i64 0, .int .i64 0, .int .i64 0, .int .i64 0, .int .i64 0, .int .i64 0, .int .i64 0] 23 (0, 0)) := new_at _ _ _ rfl
  clear B1
  generalize w1.heap.size = b3 at *
  generalize w1.alloc (.cells #[.int .i64 0, .int .i64 0, .int .i64 0, .int .i64 0, .int .i64 0, .int .i64 0, .int .i64 0] 23) = w2 at *
  have l2 := (Array.getElem?_eq_some_iff.1 hb2).1
  have R2 := Mr.hid (RP.out w2)
  replace hb2 := Mr.hid hb2
  replace B2 := Mr.hid B2
  clear RP
  go_upto_region 3 with (go_at_call 11; refine R2.out.mono ?_; clear R2; rintro e w3 ⟨rfl, B3⟩)
  have B4 : Below w.heap.size w (w3.alloc (.cells #[.int .i64 0, .int .i64 0, .int .i64 0, .int .i64 0, .int .i64 0, .int .i64 0, .int .i64 0] 23)) := (B2.out.trans (B3.mono B2.out.size)).alloc (Nat.le_trans B2.out.size B3.size) _
  have hb4 : (w3.alloc (.cells #[.int .i64 0, .int .i64 0, .int .i64 0, .int .i64 0, .int .i64 0, .int .i64 0, .int .i64 0] 23)).heap[w3.heap.size]? = some (.cells #[.int .i64 0, .int .i64 0, .int .i64 0, .int .i64 0, .int .i64 0, .int .i64 0, .int .i64 0] 23 (0, 0)) := new_at _ _ _ rfl
  have hb3 : (w3.alloc (.cells #[.int .i64 0, .int .i64 0, .int .i64 0, .int .i64 0, .int .i64 0, .int .i64 0, .int .i64 0] 23)).heap[b3]? = some (.cells #[.int .i64 0, .int .i64 0, .int .i64 0, .int .i64 0, .int .i64 0, .int .i64 0, .int .i64 0] 23 (0, 0)) := (Lib.alloc_old w3 _ _ (Nat.lt_of_lt_of_le l2 B3.size)).trans ((B3.block _ l2).trans hb2.out)
  clear B3 hb2 B2 l2
  generalize w3.heap.size = b5 at *
  generalize w3.alloc (.cells #[.int .i64 0, .int .i64 0, .int .i64 0, .int .i64 0, .int .i64 0, .int .i64 0, .int .i64 0] 23) = w4 at *
  have x0 := cell_blk hb3 0
  have x1 := cell_blk hb3 1
  have x2 := cell_blk hb3 2
  have x3 := cell_blk hb3 3
  have x4 := cell_blk hb3 4
  have x5 := cell_blk hb3 5
  have x6 := cell_blk hb3 6
  have y0 := cell_blk hb4 0
  have y1 := cell_blk hb4 1
  have y2 := cell_blk hb4 2
  have y3 := cell_blk hb4 3
  have y4 := cell_blk hb4 4
  have y5 := cell_blk hb4 5
  have y6 := cell_blk hb4 6
  have lx := (Array.getElem?_eq_some_iff.1 hb3).1
  have ly := (Array.getElem?_eq_some_iff.1 hb4).1
  have SS := Mr.hid (SM.out w4)
  have A4 := Mr.hid (fun W (h : Below w4.heap.size w4 W) => AW.out W (B4.trans (h.mono B4.size)))
  replace B4 := Mr.hid B4
  clear hb3 hb4 AW SM
  go_wp2_with (first | (go_at_call 12; refine SS.out.mono ?_; clear SS; rintro e w8 ⟨rfl, B8⟩; have A5 := Mr.hid (A4.out _ B8); replace B8 := Mr.hid B8; clear A4) | (go_at_call 9; refine A5.out.mono ?_; clear A5; rintro e w9 ⟨rfl, B9⟩; replace B9 := Mr.hid B9))
  go_ret
  exact ⟨by simp, B4.out.trans ((B8.out.trans (B9.out.mono B8.out.size)).mono B4.out.size)⟩
set_option maxHeartbeats 16000000 in
theorem parses_ok (l : List UInt8) (c0 c1 c2 c3 c4 c5 c6 : Int) (ms : List Mv) (w : World) (V : EnvX w) (hx : parseX l = .inr (⟨c0, c1, c2, c3, c4, c5, c6⟩, ms)) :
    Calls Tryz.prog 4 #[.string ⟨l.toArray⟩] w fun e w' => e = .returned (.bool true) ∧ Below w.heap.size w w' := by
  obtain ⟨hcd, hl, hm⟩ := parseX_good hx
  have PS := Mr.hid (Parse_ok l (⟨c0, c1, c2, c3, c4, c5, c6⟩, ms) w V.env (parseX_inr hx))
  have RP : Hid (∀ W, Calls Tryz.prog 11 #[.string ⟨l.toArray⟩] W (PaA W (⟨c0, c1, c2, c3, c4, c5, c6⟩, ms))) := fun W => by have := rParse_any l W; rw [hx] at this; exact this
  have AW := Mr.hid (fun W (hB : Below w.heap.size w W) => awake_any W (V.env.below hB))
  have SM := Mr.hid (fun W a a' c c' (h1 : MvAt W a ms.length ms) (h2 : MvAt W a' ms.length ms) => sameMoves_eq ms a a' ms.length c c' W h1 h2 (by omega))
  unfold PaA cfV at PS RP
  dsimp only at PS RP
  generalize (⟨l.toArray⟩ : ByteArray) = X at *
  obtain ⟨n, hnl⟩ : ∃ n, ms.length = n := ⟨_, rfl⟩
  rw [hnl] at PS RP SM
  clear hx V hcd hm hl
  replace hnl := Mr.hid hnl
  go_enter Tryz.func4, Tryz.ntmps4
  go_upto_region 2 with (go_at_call 10; refine PS.out.mono ?_; clear PS; rintro e w1 ⟨v, rfl, hv, B1⟩; obtain ⟨av, cv, rfl, hcv⟩ := hv.form)
  have B2 : Below w.heap.size w (w1.alloc (.cells #[.int .i64 c0, .int .i64 c1, .int .i64 c2, .int .i64 c3, .int .i64 c4, .int .i64 c5, .int .i64 c6] 23)) := B1.alloc B1.size _
  have hv2 := hv.alloc (.cells #[.int .i64 c0, .int .i64 c1, .int .i64 c2, .int .i64 c3, .int .i64 c4, .int .i64 c5, .int .i64 c6] 23)
  have hb2 : (w1.alloc (.cells #[.int .i64 c0, .int .i64 c1, .int .i64 c2, .int .i64 c3, .int .i64 c4, .int .i64 c5, .int .i64 c6] 23)).heap[w1.heap.size]? = some (.cells #[.int .i64 c0, .int .i64 c1, .int .i64 c2, .int .i64 c3, .int .i64 c4, .int .i64 c5, .int .i64 c6] 23 (0, 0)) := new_at _ _ _ rfl
  clear B1 hv
  generalize w1.heap.size = b3 at *
  generalize w1.alloc (.cells #[.int .i64 c0, .int .i64 c1, .int .i64 c2, .int .i64 c3, .int .i64 c4, .int .i64 c5, .int .i64 c6] 23) = w2 at *
  have l2 := (Array.getElem?_eq_some_iff.1 hb2).1
  have R2 := Mr.hid (RP.out w2)
  replace hb2 := Mr.hid hb2
  replace B2 := Mr.hid B2
  replace hv2 := Mr.hid hv2
  clear RP
  go_upto_region 3 with (go_at_call 11; refine R2.out.mono ?_; clear R2; rintro e w3 ⟨u, rfl, hu, B3⟩; obtain ⟨au, cu, rfl, hcu⟩ := hu.form)
  have B4 : Below w.heap.size w (w3.alloc (.cells #[.int .i64 c0, .int .i64 c1, .int .i64 c2, .int .i64 c3, .int .i64 c4, .int .i64 c5, .int .i64 c6] 23)) := (B2.out.trans (B3.mono B2.out.size)).alloc (Nat.le_trans B2.out.size B3.size) _
  have hb4 : (w3.alloc (.cells #[.int .i64 c0, .int .i64 c1, .int .i64 c2, .int .i64 c3, .int .i64 c4, .int .i64 c5, .int .i64 c6] 23)).heap[w3.heap.size]? = some (.cells #[.int .i64 c0, .int .i64 c1, .int .i64 c2, .int .i64 c3, .int .i64 c4, .int .i64 c5, .int .i64 c6] 23 (0, 0)) := new_at _ _ _ rfl
  have hb3 : (w3.alloc (.cells #[.int .i64 c0, .int .i64 c1, .int .i64 c2, .int .i64 c3, .int .i64 c4, .int .i64 c5, .int .i64 c6] 23)).heap[b3]? = some (.cells #[.int .i64 c0, .int .i64 c1, .int .i64 c2, .int .i64 c3, .int .i64 c4, .int .i64 c5, .int .i64 c6] 23 (0, 0)) := (Lib.alloc_old w3 _ _ (Nat.lt_of_lt_of_le l2 B3.size)).trans ((B3.block _ l2).trans hb2.out)
  have hv4 := (hv2.out.below B3).alloc (.cells #[.int .i64 c0, .int .i64 c1, .int .i64 c2, .int .i64 c3, .int .i64 c4, .int .i64 c5, .int .i64 c6] 23)
  have hu4 := hu.alloc (.cells #[.int .i64 c0, .int .i64 c1, .int .i64 c2, .int .i64 c3, .int .i64 c4, .int .i64 c5, .int .i64 c6] 23)
  clear B3 hb2 B2 l2 hv2 hu
  generalize w3.heap.size = b5 at *
  generalize w3.alloc (.cells #[.int .i64 c0, .int .i64 c1, .int .i64 c2, .int .i64 c3, .int .i64 c4, .int .i64 c5, .int .i64 c6] 23) = w4 at *
  have x0 := cell_blk hb3 0
  have x1 := cell_blk hb3 1
  have x2 := cell_blk hb3 2
  have x3 := cell_blk hb3 3
  have x4 := cell_blk hb3 4
  have x5 := cell_blk hb3 5
  have x6 := cell_blk hb3 6
  have y0 := cell_blk hb4 0
  have y1 := cell_blk hb4 1
  have y2 := cell_blk hb4 2
  have y3 := cell_blk hb4 3
  have y4 := cell_blk hb4 4
  have y5 := cell_blk hb4 5
  have y6 := cell_blk hb4 6
  have lx := (Array.getElem?_eq_some_iff.1 hb3).1
  have ly := (Array.getElem?_eq_some_iff.1 hb4).1
  have SS := Mr.hid (SM.out w4 av au cv cu (MvAt.of hv4) (MvAt.of hu4))
  have A4 := Mr.hid (fun W (h : Below w4.heap.size w4 W) => AW.out W (B4.trans (h.mono B4.size)))
  replace B4 := Mr.hid B4
  clear hb3 hb4 AW SM hv4 hu4
  go_wp2_with (first | (go_at_call 12; refine SS.out.mono ?_; clear SS; rintro e w8 ⟨rfl, B8⟩; have A5 := Mr.hid (A4.out _ B8); replace B8 := Mr.hid B8; clear A4) | (go_at_call 9; refine A5.out.mono ?_; clear A5; rintro e w9 ⟨rfl, B9⟩; replace B9 := Mr.hid B9))
  go_ret
  exact ⟨by simp, B4.out.trans ((B8.out.trans (B9.out.mono B8.out.size)).mono B4.out.size)⟩
theorem law_parses (s : ByteArray) (w : World) (hz : s.size ≤ 281474976710656) (V : EnvX w) :
    Calls Tryz.prog 4 #[.string s] w fun e w' => e = .returned (.bool true) ∧ Below w.heap.size w w' := by
  have e : s = ⟨s.data.toList.toArray⟩ := by simp
  rw [e]
  cases h : parseX s.data.toList with
  | inl x => exact parses_err _ x.1 x.2 w V h
  | inr fin =>
    obtain ⟨⟨c0, c1, c2, c3, c4, c5, c6⟩, ms⟩ := fin
    exact parses_ok _ c0 c1 c2 c3 c4 c5 c6 ms w V h
end Go.Proofs.YtcomelbphdjnnaaGreatDoor.Sc
