/-
  SCHEDULE: the heap's Len and Next.
-/
import Derived.Test.YtailcefgkgpalaaSsPut
namespace Go.Proofs.Ytailcefgkgpalaa.Ss
open Go.RowKit Mr Md Sh
set_option linter.unusedVariables false
set_option linter.unusedSimpArgs false
set_option maxRecDepth 100000
theorem len_any {w : World} {b : Nat} {S : Nat → Prop} {v : Value} {l : List Tr} {p : Int} (h : Hh w b S v l p) :
    Calls Try.prog 9 #[.pointer (some ⟨b, 0, none⟩)] w fun e w' => e = .returned (.int .i64 (l.length : Int)) ∧ w' = w := by
  obtain ⟨a, cap, rfl, hcap⟩ := h.row.form
  have k0 := h.c0
  have kl := h.lt
  replace h := Mr.hid h
  go_enter Try.func9, Try.ntmps9
  go_wp2
  go_ret
  exact ⟨rfl, rfl⟩
set_option maxHeartbeats 8000000 in
theorem next_none {w : World} {b : Nat} {S : Nat → Prop} {v : Value} {p : Int} (h : Hh w b S v [] p) :
    Calls Try.prog 8 #[.pointer (some ⟨b, 0, none⟩)] w fun e w' => e = .returned (.tuple #[.string ByteArray.empty, .int .i64 0, .bool false]) ∧ Below w.heap.size w w' := by
  have L := Mr.hid (len_any h)
  replace h := Mr.hid h
  go_enter Try.func8, Try.ntmps8
  go_upto_region 3 with (go_at_call 9; refine L.out.mono ?_; clear L; rintro e w1 ⟨rfl, rfl⟩)
  go_quiet (fail)
  go_wp2
  go_ret3
  exact ⟨rfl, ((Below.refl _ _).alloc (Nat.le_refl _) _).trans (Bx.draws _ _ nq)⟩
section
variable {w w' : World} {b : Nat} {S T : Nat → Prop} {v : Value} {l : List Tr} {p : Int}
theorem Hh.inb (h : Hh w b S v l p) : Hh w b (fun q => S q ∧ q < w.heap.size) v l p :=
  ⟨h.box, h.row.kept (fun _ _ => rfl) (fun k hk => h.row.lt k hk), fun e => h.nb e.1⟩
theorem Hh.mono (h : Hh w b S v l p) (hT : ∀ k, S k → T k) (hb : ¬ T b) : Hh w b T v l p := ⟨h.box, h.row.mono hT, hb⟩
theorem Hh.cut {g n cap : Nat} (h : Hh w b S (.slice (some ⟨g, 0, none⟩) n cap) l p) {m : Nat} (hm : m ≤ n) (hn : n = l.length) : Hh (w.setCell ⟨b, 0, none⟩ (.slice (some ⟨g, 0, none⟩) m cap)) b S (.slice (some ⟨g, 0, none⟩) m cap) (l.take m) p ∧ Fr w (w.setCell ⟨b, 0, none⟩ (.slice (some ⟨g, 0, none⟩) m cap)) (fun k => k = b ∨ S k) := by
  have hr := h.row
  rw [← hn] at hr
  have h2 := has_cut hr hm
  rw [← trs_take] at h2
  have hg := (hr.lt g rfl).1
  have hgb : g ≠ b := fun e => h.nb (e ▸ hg)
  refine ⟨⟨by rw [setBlk h.box]; rfl, ?_, h.nb⟩, (Fr.refl _ _).setCell ⟨b, 0, none⟩ _ (.inl (.inl rfl))⟩
  rw [List.length_take, ← hn, Nat.min_eq_left hm]
  exact h2.setCell _ _ (by simp [Value.ownBlock]; exact hgb)
end
set_option maxHeartbeats 16000000 in
theorem next_some {D : Int → ByteArray → Prop} {w : World} {b : Nat} {S : Nat → Prop} {v : Value} {l : List Tr} {p : Int} (h : Hh w b S v l p) (hlm : l.length ≤ 1000000) (hh : Hep l) (hl : 0 < l.length) (hC : ∀ k c k' c', D k c → D k' c' → ∀ w, Calls Try.prog 26 #[.string c, .string c'] w fun e w' => e = .returned (.int .i64 (cmpI k k')) ∧ w' = w) (hD : ∀ x ∈ l, D x.k x.c) :
    Calls Try.prog 8 #[.pointer (some ⟨b, 0, none⟩)] w fun e w' => e = .returned (.tuple #[.string (tr l 0).c, .int .i64 (tr l 0).v, .bool true]) ∧ ∃ v' l', Hh w' b S v' l' p ∧ l'.Perm (low l) ∧ Hep l' ∧ Fr w w' (fun q => q = b ∨ S q) := by
  have hSb := Mr.hid h.nb
  replace h := h.inb
  obtain ⟨g, cap, rfl, hS, hgl, hcp, hcm⟩ := h.there hl
  have L := len_any h
  obtain ⟨m, hm⟩ : ∃ m, l.length = m + 1 := ⟨l.length - 1, by omega⟩
  rw [hm] at h L hcp
  have k0 := h.c0
  have kl := h.lt
  have hne : b ≠ g := fun e => h.nb (e ▸ hS)
  have hne2 : g ≠ b := Ne.symm hne
  obtain ⟨a0, a1, a2, af⟩ := h.cell (i := 0) (by omega)
  have Dd := Mr.hid (Dn.start hh hl)
  obtain ⟨x, hx⟩ : ∃ x, x = tr l 0 := ⟨_, rfl⟩
  rw [← hx] at a0 a1 a2
  rw [← hx]
  rw [Nat.zero_mul] at a0
  rw [Nat.zero_mul, Nat.zero_add] at a1 a2
  replace hx := Mr.hid hx
  replace hm := Mr.hid hm
  replace h := Mr.hid h
  replace L := Mr.hid L
  replace hh := Mr.hid hh
  replace hC := Mr.hid hC
  replace hD := Mr.hid hD
  have hmb : m ≤ 1000000 := by have := hm.out; omega
  have hm0 : (0 : Int) < (m : Int) + 1 := by omega
  have hw5 : IntKind.i64.wrap ((m : Int) + 1 - 1) = (m : Int) := by rw [show (m : Int) + 1 - 1 = (m : Int) from by omega]; exact i64x _ (by omega) (by omega)
  have hz : ((m : Int) + 1 == 0) = false := by simp; omega
  go_enter Try.func8, Try.ntmps8
  go_upto_region 4 with (go_at_call 9; refine L.out.mono ?_; clear L; rintro e w1 ⟨rfl, hw1⟩; obtain rfl := hw1.symm)
  go_region
  have B2 : Below w.heap.size w (w.alloc (.cells #[.string x.c, .int .i64 x.v, .int .u64 x.n] 50)).drew := ((Below.refl _ _).alloc (Nat.le_refl _) _).drew
  have X2 : (w.alloc (.cells #[.string x.c, .int .i64 x.v, .int .u64 x.n] 50)).drew.heap[w.heap.size]? = some (.cells #[.string x.c, .int .i64 x.v, .int .u64 x.n] 50) := heap_alloc_new w _
  clear k0 a0 a1 a2 af
  generalize (w.alloc (.cells #[.string x.c, .int .i64 x.v, .int .u64 x.n] 50)).drew = w2 at *
  have h2 := h.out.below B2
  have k0 := h2.c0
  have kl2 := h2.lt
  have hgl2 : g < w2.heap.size := Nat.lt_of_lt_of_le hgl B2.size
  obtain ⟨a0, a1, a2, af⟩ := h2.cell (i := 0) (by have := hm.out; omega)
  obtain ⟨b0, b1, b2, bf⟩ := h2.cell (i := m) (by have := hm.out; omega)
  rw [Nat.zero_mul] at a0
  rw [Nat.zero_mul, Nat.zero_add] at a1 a2
  have f0 := af 0
  have f1 := af 1
  have f2 := af 2
  have h3 : Hh (put3 w2 g 0 (tr l m)).drew b (fun q => S q ∧ q < w.heap.size) (.slice (some ⟨g, 0, none⟩) (m + 1) cap) (l.set 0 (tr l m)) p := (h2.put (i := 0) (by have := hm.out; omega) (tr l m) hS).below ((Below.refl _ _).drew)
  have F3 : Fr w2 (put3 w2 g 0 (tr l m)).drew (fun q => S q ∧ q < w.heap.size) := (fr_put3 (Fr.refl _ _) g 0 (tr l m) hS).drew
  obtain ⟨z, hzz⟩ : ∃ z, z = tr l m := ⟨_, rfl⟩
  rw [← hzz] at b0 b1 b2 h3 F3
  replace hzz := Mr.hid hzz
  replace X2 := Mr.hid X2
  replace B2 := Mr.hid B2
  replace h2 := Mr.hid h2
  replace h3 := Mr.hid h3
  replace F3 := Mr.hid F3
  clear af bf
  unfold put3 at h3 F3
  have hmI : (m : Int) < (m : Int) + 1 := by omega
  have hm9 : (0 : Int) ≤ (m : Int) := by omega
  have hmc : (m : Int) ≤ (cap : Int) := by omega
  go_upto_region 5 with (fail)
  go_region
  clear k0 kl2 a0 a1 a2 b0 b1 b2 f0 f1 f2
  have hgl3 : g < (((w2.setCell ⟨g, 0, none⟩ (.string z.c)).setCell ⟨g, 1, none⟩ (.int .i64 z.v)).setCell ⟨g, 2, none⟩ (.int .u64 z.n)).drew.heap.size := Nat.lt_of_lt_of_le hgl2 F3.out.size
  generalize (((w2.setCell ⟨g, 0, none⟩ (.string z.c)).setCell ⟨g, 1, none⟩ (.int .i64 z.v)).setCell ⟨g, 2, none⟩ (.int .u64 z.n)).drew = w3 at *
  have k0 := h3.out.c0
  have kl3 := h3.out.lt
  obtain ⟨b0, b1, b2, bf⟩ := h3.out.cell (i := m) (by have := hm.out; simp; omega)
  have f0 := bf (m * 3)
  have f1 := bf (m * 3 + 1)
  have f2 := bf (m * 3 + 2)
  have f4 := h3.out.fz 0
  have h4 := h3.out.put (i := m) (by have := hm.out; simp; omega) tr0 hS
  have F4 := fr_put3 (Fr.refl w3 (fun q => S q ∧ q < w.heap.size)) g m tr0 hS
  obtain ⟨h5, F5⟩ := h4.cut (m := m) (by omega) (by have := hm.out; simp; omega)
  have hlow : ((l.set 0 (tr l m)).set m tr0).take m = low l := by
    unfold low
    rw [hm.out, show m + 1 - 1 = m from rfl, List.take_set_of_le (Nat.le_refl _)]
  rw [hzz.out, hlow] at h5
  have K := sink_any h5 (by rw [low_len hl]; omega) Dd.out hC.out (fun y hy => hD.out y ((low_perm hl).subset (List.mem_cons_of_mem _ hy)))
  replace F4 := Mr.hid (F3.out.trans (F4.mono (fun q hq => Or.inl hq)))
  replace F5 := Mr.hid ((F4.out.mono (T := fun q => q = b ∨ (S q ∧ q < w.heap.size)) (fun q hq => Or.inr hq)).trans (F5.mono (fun q hq => Or.inl hq)))
  replace h5 := Mr.hid h5
  replace K := Mr.hid K
  clear h4 F4 bf hlow
  unfold put3 at F5 h5 K
  have e0 : tr0.c = ByteArray.empty := rfl
  have e1 : tr0.v = 0 := rfl
  have e2 : tr0.n = 0 := rfl
  rw [e0, e1, e2] at F5 h5 K
  clear e0 e1 e2
  go_upto_region 9 with (go_at_call 15; refine K.out.mono ?_; clear K; rintro e w9 ⟨rfl, l', hr1, hr2, hr3, hr4⟩; replace F5 := Mr.hid (F5.out.trans (hr4.mono (fun q hq => Or.inl (Or.inr hq)))); clear hr4; replace hr1 := Mr.hid hr1; replace hr2 := Mr.hid hr2; replace hr3 := Mr.hid hr3)
  clear k0 b0 b1 b2 f0 f1 f2 f4 hgl3 kl3
  have hlw : w.heap.size < w2.heap.size := (Array.getElem?_eq_some_iff.1 X2.out).1
  have X9 := (F5.out.block w.heap.size hlw (fun e => by rcases e with e | e <;> omega)).trans X2.out
  have c0 : w9.cell? ⟨w.heap.size, 0, none⟩ = some (.string x.c) := by rw [cell_blk X9]; rfl
  have c1 : w9.cell? ⟨w.heap.size, 1, none⟩ = some (.int .i64 x.v) := by rw [cell_blk X9]; rfl
  have hl9 := (Array.getElem?_eq_some_iff.1 X9).1
  have hF : Hid (Fr w w9 (fun q => q = b ∨ S q)) := (Fr.of_below (S := fun q => q = b ∨ S q) B2.out).trans (F5.out.mono (fun q hq => Or.inl (hq.imp id And.left)))
  replace X9 := Mr.hid X9
  go_quiet (fail)
  have B9 := Bx.draws w9.heap.size w9 nq
  have hend : Hid (∃ v' l', Hh (w9.drewN nq) b S v' l' p ∧ l'.Perm (low l) ∧ Hep l' ∧ Fr w (w9.drewN nq) (fun q => q = b ∨ S q)) := ⟨_, l', (hr1.out.below B9).mono (fun q hq => hq.1) hSb.out, hr2.out, hr3.out, hF.out.trans (Fr.of_below B9)⟩
  clear c0 c1 hl9
  generalize w9.drewN nq = w10 at *
  go_wp2
  go_ret3
  exact ⟨rfl, hend.out⟩
end Go.Proofs.Ytailcefgkgpalaa.Ss
