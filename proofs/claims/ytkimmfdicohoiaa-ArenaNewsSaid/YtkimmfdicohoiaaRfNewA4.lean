import Derived.Test.YtkimmfdicohoiaaRfNewL4
import Derived.Test.YtkimmfdicohoiaaRfFresh
import Derived.Deep.DeepCutAuto
/-
  THE DOCUMENT's MACHINE: New (a machine without slots and records).
-/
namespace Go.Proofs.Ytkimmfdicohoiaa.Rf
open Go.RowKit Mr Me Ma
theorem info_u64 : (Try.prog.info? 54).map (fun i => (i.zero, i.size, i.bytes)) = some (some (.int .u64 0), 1, 8) := by kernel_rfl
theorem wrd_one' (ws : List Int) : ∀ u ∈ wrd ws, u.oneCell' = true := by
  intro u hu
  obtain ⟨x, _, rfl⟩ := List.mem_map.1 hu
  rfl
theorem bodyPost_imp {P : Program} {fn : Func} {R R' : Ending → World → Prop} (h : ∀ e w, R e w → R' e w) : ∀ x a w, bodyPost P fn R x a w → bodyPost P fn R' x a w := by
  intro x a w hx
  cases x with
  | normal => obtain ⟨d, v, hv, hr⟩ := hx; exact ⟨d, v, hv, h _ _ hr⟩
  | ret => obtain ⟨d, v, hv, hr⟩ := hx; exact ⟨d, v, hv, h _ _ hr⟩
  | panic c => exact ⟨hx.1, h _ _ hx.2⟩
  | outgrown => exact h _ _ hx
  | exit id => exact hx
  | goto l => exact hx
/-- What New makes, at any configuration. -/
structure Nw (W0 w' : World) (nt nr ns b : Nat) (us c2 c3 c4 c6 : Int) (ws : List Int) (code : List Ins) (vcd ven vw vlb vt vst vho vli : Value) : Prop where
  bel : Below W0.heap.size W0 w'
  lb : W0.heap.size ≤ b
  bx : w'.heap[b]? = some (.cells #[.int .i64 (nt : Int), .int .i64 (nr : Int), .int .i64 c2, .int .i64 c3, .int .i64 c4, .int .i64 (ns : Int), .int .i64 c6, vw, vcd, vlb, ven, vt, vst, vho, vli, u0, u0, u0, u0, u0, u0, u0, u0, .int .i64 0, nilS, nilS, nilS] 60 (0, 0))
  wd : Has w' (fun k => W0.heap.size ≤ k) 54 1 vw ws.length (wrd ws)
  la : Has w' (fun k => W0.heap.size ≤ k) 3 1 vlb (labsOf code code.length).length (nums (labsOf code code.length))
  th : Has w' (fun k => W0.heap.size ≤ k) 66 658 vt nt ((List.replicate nt rt0).flatMap Rt.cells)
  st : Has w' (fun k => W0.heap.size ≤ k) 38 1 vst ns (nums (stsOf us ns))
  ho : Has w' (fun k => W0.heap.size ≤ k) 3 1 vho ns (nums (List.replicate ns (-1)))
  li : Has w' (fun k => W0.heap.size ≤ k) 51 1 vli nr (List.replicate nr nilS)
  ap : ∀ k, vlb.ownBlock = some k → vho.ownBlock ≠ some k
set_option maxRecDepth 100000 in
set_option maxHeartbeats 4000000 in
theorem New_any (W0 : World) (nt nr ns : Nat) (us c2 c3 c4 c6 : Int) (hnt : nt ≤ 100000) (hnr : nr ≤ 100000) (hns : ns ≤ 100000) (a : Option Addr) (n cap : Nat) (ws : List Int) (hs : Src W0 a n cap ws) (hn : n ≤ 8192) {gd cd ne : Nat} {code : List Ins} {S : Nat → Prop} {ae : Option Addr} {ce : Nat}
    (hcd : Has W0 S 74 6 (.slice (some ⟨gd, 0, none⟩) code.length cd) code.length (code.flatMap Ins.cells)) (hcode : ∀ I ∈ code, I.kd = 10 → ∃ l : Nat, I.a = l ∧ l ≤ 1000) :
    Calls Try.prog 12 #[.agg #[.int .i64 (nt : Int), .int .i64 (nr : Int), .int .i64 c2, .int .i64 c3, .int .i64 c4, .int .i64 (ns : Int), .int .i64 c6], .int .i64 us, .slice a n cap, .slice (some ⟨gd, 0, none⟩) code.length cd, .slice ae ne ce] W0 fun e w' => ∃ b vw vlb vt vst vho vli, e = .returned (.pointer (some ⟨b, 0, none⟩)) ∧ Nw W0 w' nt nr ns b us c2 c3 c4 c6 ws code (.slice (some ⟨gd, 0, none⟩) code.length cd) (.slice ae ne ce) vw vlb vt vst vho vli := by
  obtain ⟨i0, hi, hz0, hz1, hz2⟩ := info_parts info_u64
  have hwn := hs.1
  subst hwn
  have nws := fun (W : World) (hB : Below W0.heap.size W0 W) => (hs.below hB).news
  have BE : ∀ o : Obj, Below W0.heap.size W0 (W0.alloc o).drew := fun o => ((Below.refl _ _).alloc (Nat.le_refl _) o).drew
  have FN := fun (o : Obj) (w1 : World) (v : Value) (m : Obj) (hv : Has w1 (fun k => W0.heap.size < k) 54 1 v ws.length (wrd ws)) (hg : (W0.alloc o).drew.grownBy w1 none) => (show w1.heap[W0.heap.size]? = some o ∧ Below W0.heap.size W0 (w1.alloc m) ∧ (w1.alloc m).heap[W0.heap.size]? = some o ∧ W0.heap.size ≤ w1.heap.size ∧ Has (w1.alloc m) (fun k => W0.heap.size < k) 54 1 v ws.length (wrd ws) from by
    have h1 : Below W0.heap.size W0 w1 := (BE o).grown hg (by simp) (fun k hk => by cases hk)
    have hsz : W0.heap.size < w1.heap.size := by have := hg.size; simp at this; omega
    have k0 : w1.heap[W0.heap.size]? = some o := (hg.block _ (by simp) (fun e => by cases e)).trans (heap_alloc_new W0 o)
    refine ⟨k0, h1.alloc h1.size m, (Below.heap_alloc _ _ _ hsz).trans ((hg.block _ (by simp) (fun e => by cases e)).trans (heap_alloc_new W0 o)), h1.size, hv.alloc m⟩)
  have hwl : (wrd ws).length = ws.length * 1 := by simp [wrd]
  have ha0 := hs.news.1
  have hone := wrd_one' ws
  replace nws := Mr.hid nws
  replace BE := Mr.hid BE
  replace FN := Mr.hid FN
  replace hcd := Mr.hid hcd
  replace hcode := Mr.hid hcode
  replace hone := Mr.hid hone
  replace hs := Mr.hid hs
  go_enter Try.func12, Try.ntmps12
  go_upto_region 1 with fail
  go_cut [11] (fun z wx => ∃ b pv qv, z = .pointer (some ⟨b, 0, none⟩) ∧ Below W0.heap.size W0 wx ∧ wx.heap[W0.heap.size]? = some (.cells #[.int .i64 (nt : Int), .int .i64 (nr : Int), .int .i64 c2, .int .i64 c3, .int .i64 c4, .int .i64 (ns : Int), .int .i64 c6] 23 (0, 0)) ∧ W0.heap.size ≤ b ∧ wx.heap[b]? = some (.cells #[.int .i64 (nt : Int), .int .i64 (nr : Int), .int .i64 c2, .int .i64 c3, .int .i64 c4, .int .i64 (ns : Int), .int .i64 c6, .slice pv ws.length qv, .slice (some ⟨gd, 0, none⟩) code.length cd, nilS, .slice ae ne ce, nilS, nilS, nilS, nilS, u0, u0, u0, u0, u0, u0, u0, u0, .int .i64 0, nilS, nilS, nilS] 60 (0, 0)) ∧ Has wx (fun k => W0.heap.size < k) 54 1 (.slice pv ws.length qv) ws.length (wrd ws))
  case first =>
    go_region_law (refine step_append_fresh _ rfl (.const (.slice none 0 0)) (.tmp 19) 45 rfl (fun k => W0.heap.size < k) 54 i0 _ 1 8 Try.underlying45 hi hz0 hz1 hz2 rfl rfl a ws.length cap (wrd ws) (by first | rfl | simp [Act.eval, Act.put]) hwl ha0 (nws.out _ (BE.out _)).2 hone.out (by unfold maxLen; omega) (by omega) (by simp) ?_; intro v w1 hv hg hat; have F9 := fun m => FN.out (.cells #[.int .i64 (nt : Int), .int .i64 (nr : Int), .int .i64 c2, .int .i64 c3, .int .i64 c4, .int .i64 (ns : Int), .int .i64 c6] 23) w1 v m hv hg; have k0 := (F9 (.cells #[] 0)).1; have kk : w1.cell? ⟨W0.heap.size, 0, none⟩ = some (.int .i64 (nt : Int)) ∧ w1.cell? ⟨W0.heap.size, 1, none⟩ = some (.int .i64 (nr : Int)) ∧ w1.cell? ⟨W0.heap.size, 2, none⟩ = some (.int .i64 c2) ∧ w1.cell? ⟨W0.heap.size, 3, none⟩ = some (.int .i64 c3) ∧ w1.cell? ⟨W0.heap.size, 4, none⟩ = some (.int .i64 c4) ∧ w1.cell? ⟨W0.heap.size, 5, none⟩ = some (.int .i64 (ns : Int)) ∧ w1.cell? ⟨W0.heap.size, 6, none⟩ = some (.int .i64 c6) := (by simp [World.cell?, k0]); obtain ⟨kk0, kk1, kk2, kk3, kk4, kk5, kk6⟩ := kk; obtain ⟨pv, qv, rfl, _⟩ := hv.form; have hsz1 := hg.size; replace F9 := Mr.hid F9; clear hv hg hat k0)
    all_goals go_wp2
    all_goals go_meet
    all_goals (obtain ⟨_, r1, r2, r3, r4⟩ := F9.out _; exact ⟨_, _, _, rfl, r1, r2, r3, heap_alloc_new _ _, r4⟩)
  case rest =>
    obtain ⟨b, pv, qv, rfl, r1, r2, r3, r4, r5⟩ := hcut
    go_step
    refine wp_mono (new_labels (W0 := W0) (R := fun w' => ∃ vw vlb vt vst vho vli, Nw W0 w' nt nr ns b us c2 c3 c4 c6 ws code (.slice (some ⟨gd, 0, none⟩) code.length cd) (.slice ae ne ce) vw vlb vt vst vho vli) hnt hnr hns r2 r4 r3 r1 hcd.out hcode.out (fun w' vt vst vho vli vlb g1 g2 g3 g4 g5 g6 g7 g8 g9 => ?_)) (fun x a' w' => bodyPost_imp (fun e w' ⟨h1, vw, vlb, vt, vst, vho, vli, h2⟩ => ⟨b, vw, vlb, vt, vst, vho, vli, h1, h2⟩) x a' w')
    have hs1 := r1.size
    have nvb : (Value.slice pv ws.length qv).ownBlock ≠ some b := not_row r4 r5 (by decide)
    refine ⟨_, vlb, vt, vst, vho, vli, g1, r3, g3, ?_, g4.mono (fun k hk => by omega), g5.mono (fun k hk => by omega), g6.mono (fun k hk => by omega), g7.mono (fun k hk => by omega), g8.mono (fun k hk => by omega), g9⟩
    exact (r5.kept (fun k hk => g2.block k (r5.lt k hk).2 (fun e => nvb (by rw [hk, e]))) (fun k hk => (r5.lt k hk).1)).mono (fun k hk => by omega)
end Go.Proofs.Ytkimmfdicohoiaa.Rf
