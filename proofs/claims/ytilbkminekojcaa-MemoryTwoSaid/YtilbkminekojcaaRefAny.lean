/-
  ask and doc, whatever the kind; a script's state.
-/
import Derived.Test.YtilbkminekojcaaRefDocD
import Derived.Test.YtilbkminekojcaaRefDocE
import Derived.Test.YtilbkminekojcaaRefSame
import Derived.Test.YtilbkminekojcaaOpenMem
namespace Go.Proofs.Ytilbkminekojcaa.Me
open Go.RowKit Mr
set_option linter.unusedVariables false
theorem kinds (k : Int) : k = 1 ∨ k = 2 ∨ k = 3 ∨ k = 4 ∨ k = 5 ∨ k = 6 ∨ k = 7 ∨ k = 8 ∨ k = 9 ∨ k = 10 ∨ (k ≠ 1 ∧ k ≠ 2 ∧ k ≠ 3 ∧ k ≠ 4 ∧ k ≠ 5 ∧ k ≠ 6 ∧ k ≠ 7 ∧ k ≠ 8 ∧ k ≠ 9 ∧ k ≠ 10) := by omega
section
variable {W : World} {S : Nat → Prop} {b : Nat} {s : St} {mv : Int} {ws0 : List Int}
theorem pl_roomy (hp : Pl ws0 s) (hb : (s.lg.length + 1 + (s.lg.length + 1) / 4 + 192) * 56 ≤ 281474976710656) : Roomy s.lg s.ah := by
  have := hp.ahl
  exact ⟨hb, room_mono (by omega) hb (by decide)⟩
theorem ask_any (h : MemS W S b s mv) (hSlt : ∀ k, S k → k < W.heap.size) (hp : Pl ws0 s) (hb : (s.lg.length + 1 + (s.lg.length + 1) / 4 + 192) * 56 ≤ 281474976710656) (o : O) :
    Calls Try.prog 20 #[.pointer (some ⟨b, 0, none⟩), .agg #[.int .i64 o.k, .int .i64 o.th, .int .i64 o.ad, .int .i64 o.n, .int .u64 o.old, .int .u64 o.w]] W (AskPost W S b (tell o s) (nxt ws0 o s mv) (nmv o mv)) := by
  have hR := pl_roomy hp hb
  have hb' : (s.lg.length + s.lg.length / 4 + 192) * 56 ≤ 281474976710656 := room_mono (by omega) hb (Nat.le_refl _)
  have hsm : s.lg.length ≤ 5026338869641 := by omega
  obtain ⟨k, th, ad, n, old, x⟩ := o
  rcases kinds k with rfl | rfl | rfl | rfl | rfl | rfl | rfl | rfl | rfl | rfl | hk
  · exact ask_1 h hSlt th ad n old x
  · exact ask_2 h hSlt hR th ad n old x
  · exact ask_3 h hSlt hR th ad n old x
  · exact ask_4 h hSlt hR th ad n old x
  · exact ask_5 h hSlt hp hsm th ad n old x
  · exact ask_6 h hSlt hsm th ad n old x
  · exact ask_7 h hSlt hb' th ad n old x
  · exact ask_8 h hSlt hb' th ad n old x
  · exact ask_9 h hSlt th ad n old x
  · exact ask_10 h hSlt hsm th ad n old x
  · have := ask_other h hSlt k th ad n old x hk
    have e1 : tell ⟨k, th, ad, n, old, x⟩ s = ⟨0, [], [], []⟩ := by simp [tell, hk]
    have e2 : nxt ws0 ⟨k, th, ad, n, old, x⟩ s mv = s := by simp [nxt, hk]
    have e3 : nmv ⟨k, th, ad, n, old, x⟩ mv = mv := by simp [nmv, hk]
    rw [e1, e2, e3]
    exact this
theorem doc_any (h : RmS W S b ws0 s mv) (hSlt : ∀ k, S k → k < W.heap.size) (hp : Pl ws0 s) (hb : (s.lg.length + 1 + (s.lg.length + 1) / 4 + 192) * 56 ≤ 281474976710656) (o : O) :
    Calls Try.prog 21 #[.pointer (some ⟨b, 0, none⟩), .agg #[.int .i64 o.k, .int .i64 o.th, .int .i64 o.ad, .int .i64 o.n, .int .u64 o.old, .int .u64 o.w]] W (DocPost W S b ws0 (tell o s) (nxt ws0 o s mv) (nmv o mv)) := by
  have hb' : (s.lg.length + s.lg.length / 4 + 192) * 56 ≤ 281474976710656 := room_mono (by omega) hb (Nat.le_refl _)
  have hsm : s.lg.length ≤ 5026338869641 := by omega
  obtain ⟨k, th, ad, n, old, x⟩ := o
  rcases kinds k with rfl | rfl | rfl | rfl | rfl | rfl | rfl | rfl | rfl | rfl | hk
  · exact doc_1 h hSlt th ad n old x
  · exact doc_2 h hSlt hb th ad n old x
  · exact doc_3 h hSlt hb th ad n old x
  · exact doc_4 h hSlt hb th ad n old x
  · exact doc_5 h hSlt hp hb' th ad n old x
  · exact doc_6 h hSlt hsm th ad n old x
  · exact doc_7 h hSlt hb' th ad n old x
  · exact doc_8 h hSlt hb' th ad n old x
  · exact doc_9 h hSlt th ad n old x
  · exact doc_10 h hSlt hsm th ad n old x
  · have := doc_other h hSlt k th ad n old x hk
    have e1 : tell ⟨k, th, ad, n, old, x⟩ s = ⟨0, [], [], []⟩ := by simp [tell, hk]
    have e2 : nxt ws0 ⟨k, th, ad, n, old, x⟩ s mv = s := by simp [nxt, hk]
    have e3 : nmv ⟨k, th, ad, n, old, x⟩ mv = mv := by simp [nmv, hk]
    rw [e1, e2, e3]
    exact this
theorem play_take_ok (hp : Pl ws0 s) (c : Nat) : Pl ws0 ⟨(play ws0 (s.lg.take c)).1, s.lg.take c, (play ws0 (s.lg.take c)).2⟩ :=
  ⟨rfl, rfl, fun a ha => hp.ok a (List.mem_of_mem_take ha)⟩
theorem nxt_pl (hp : Pl ws0 s) (o : O) : Pl ws0 (nxt ws0 o s mv) := by
  unfold nxt
  split
  · exact hp.stp _ _
  · split
    · exact hp.stp _ _
    · split
      · exact hp.stp _ _
      · split
        · unfold bkS
          split
          · exact play_take_ok hp _
          · exact hp
        · exact hp
theorem nxt_lg (o : O) : (nxt ws0 o s mv).lg.length ≤ s.lg.length + 1 := by
  unfold nxt
  split
  · exact stp_lg_le _ _ _
  · split
    · exact stp_lg_le _ _ _
    · split
      · exact stp_lg_le _ _ _
      · split
        · unfold bkS
          split
          · simp; omega
          · omega
        · omega
theorem lookN_le (o : O) : lookN o s ≤ s.lg.length := by
  unfold lookN
  split <;> omega
theorem tell_small (hp : Pl ws0 s) (hl : ws0.length ≤ 8192) (hsm : s.lg.length ≤ 5026338869641) (o : O) : (tell o s).nums.length ≤ 5026338869641 ∧ (tell o s).wds.length ≤ 1000000 ∧ (tell o s).log.length ≤ 5026338869641 := by
  have h1 := hp.len
  have h2 := lookN_le o (s := s)
  unfold tell
  repeat' split
  all_goals simp only [List.length_nil, List.length_cons, List.length_map, ent_length]
  all_goals omega
end
/-- A script's state behind i of its calls. -/
def runP (ws0 : List Int) (os : List O) : St × Int := os.foldl (fun p o => (nxt ws0 o p.1 p.2, nmv o p.2)) (⟨ws0, [], []⟩, 0)
theorem runP_snoc (ws0 : List Int) (os : List O) (i : Nat) (hi : i < os.length) : runP ws0 (os.take (i + 1)) = (nxt ws0 (os[i]?.getD noO) (runP ws0 (os.take i)).1 (runP ws0 (os.take i)).2, nmv (os[i]?.getD noO) (runP ws0 (os.take i)).2) := by
  unfold runP
  rw [List.take_add_one, List.foldl_append]
  simp [hi]
theorem runP_ok (ws0 : List Int) (os : List O) : Pl ws0 (runP ws0 os).1 ∧ (runP ws0 os).1.lg.length ≤ os.length := by
  suffices h : ∀ (l : List O) (p : St × Int), Pl ws0 p.1 → Pl ws0 (l.foldl (fun p o => (nxt ws0 o p.1 p.2, nmv o p.2)) p).1 ∧ (l.foldl (fun p o => (nxt ws0 o p.1 p.2, nmv o p.2)) p).1.lg.length ≤ p.1.lg.length + l.length by
    have := h os (⟨ws0, [], []⟩, 0) (Pl.zero ws0)
    simpa [runP] using this
  intro l
  induction l with
  | nil => intro p hp; exact ⟨hp, by simp⟩
  | cons o l ih =>
    intro p hp
    have h1 := ih (nxt ws0 o p.1 p.2, nmv o p.2) (nxt_pl hp o)
    have h2 := nxt_lg (ws0 := ws0) (s := p.1) (mv := p.2) o
    refine ⟨h1.1, ?_⟩
    have h3 := h1.2
    simp only [List.foldl_cons, List.length_cons] at h3 ⊢
    omega
/-- The program's memory and the document's, side by side, at one state. -/
def Both (W : World) (n0 b c : Nat) (ws0 : List Int) (s : St) (mv : Int) : Prop := ∃ S T : Nat → Prop, MemS W S b s mv ∧ RmS W T c ws0 s mv ∧ (∀ k, S k → n0 ≤ k ∧ k < W.heap.size) ∧ (∀ k, T k → n0 ≤ k ∧ k < W.heap.size) ∧ ∀ k, S k → ¬ T k
theorem Both.below {W W' : World} {n0 b c : Nat} {ws0 : List Int} {s : St} {mv : Int} (h : Both W n0 b c ws0 s mv) (hB : Below W.heap.size W W') : Both W' n0 b c ws0 s mv := by
  obtain ⟨S, T, h1, h2, h3, h4, h5⟩ := h
  have := hB.size
  exact ⟨S, T, h1.below hB, h2.below hB, fun k hk => ⟨(h3 k hk).1, by have := (h3 k hk).2; omega⟩, fun k hk => ⟨(h4 k hk).1, by have := (h4 k hk).2; omega⟩, h5⟩
/-- Behind ask. -/
structure Half (W w1 : World) (n0 b c : Nat) (ws0 : List Int) (s s' : St) (mv mv' : Int) (v1 : Value) (t : Tld) : Prop where
  ex : ∃ S T : Nat → Prop, MemS w1 S b s' mv' ∧ RmS w1 T c ws0 s mv ∧ (∀ k, S k → n0 ≤ k ∧ k < w1.heap.size) ∧ (∀ k, T k → n0 ≤ k ∧ k < W.heap.size) ∧ (∀ k, S k → ¬ T k)
  told : ToldAt w1 (fun k => W.heap.size ≤ k) v1 t
  size : W.heap.size ≤ w1.heap.size
  lo : n0 ≤ W.heap.size
theorem both_ask' {W : World} {n0 b c : Nat} {ws0 : List Int} {s : St} {mv : Int} {o : O} (h : Both W n0 b c ws0 s mv) (hn : n0 ≤ W.heap.size) (HA : ∀ S, MemS W S b s mv → (∀ k, S k → k < W.heap.size) → Calls Try.prog 20 #[.pointer (some ⟨b, 0, none⟩), .agg #[.int .i64 o.k, .int .i64 o.th, .int .i64 o.ad, .int .i64 o.n, .int .u64 o.old, .int .u64 o.w]] W (AskPost W S b (tell o s) (nxt ws0 o s mv) (nmv o mv))) :
    Calls Try.prog 20 #[.pointer (some ⟨b, 0, none⟩), .agg #[.int .i64 o.k, .int .i64 o.th, .int .i64 o.ad, .int .i64 o.n, .int .u64 o.old, .int .u64 o.w]] W fun e w1 => ∃ v1, e = .returned v1 ∧ Half W w1 n0 b c ws0 s (nxt ws0 o s mv) mv (nmv o mv) v1 (tell o s) ∧ Below n0 W w1 := by
  obtain ⟨S, T, h1, h2, h3, h4, h5⟩ := h
  refine (HA S h1 (fun k hk => (h3 k hk).2)).mono ?_
  rintro e w1 ⟨v1, rfl, ht, hm, hf⟩
  refine ⟨v1, rfl, ⟨⟨_, T, hm.narrow, h2.fr hf (fun k hk _ hS => h5 k hS hk), fun k hk => ⟨?_, hk.2⟩, h4, fun k hk hT => ?_⟩, ht, hf.size, hn⟩, hf.below (fun k hk => (h3 k hk).1) hn⟩
  · rcases hk.1 with hk | hk
    · exact (h3 k hk).1
    · omega
  · rcases hk.1 with hk | hk
    · exact h5 k hk hT
    · have := (h4 k hT).2; omega
theorem both_ask {W : World} {n0 b c : Nat} {ws0 : List Int} {s : St} {mv : Int} (h : Both W n0 b c ws0 s mv) (hn : n0 ≤ W.heap.size) (hp : Pl ws0 s) (hb : (s.lg.length + 1 + (s.lg.length + 1) / 4 + 192) * 56 ≤ 281474976710656) (o : O) :
    Calls Try.prog 20 #[.pointer (some ⟨b, 0, none⟩), .agg #[.int .i64 o.k, .int .i64 o.th, .int .i64 o.ad, .int .i64 o.n, .int .u64 o.old, .int .u64 o.w]] W fun e w1 => ∃ v1, e = .returned v1 ∧ Half W w1 n0 b c ws0 s (nxt ws0 o s mv) mv (nmv o mv) v1 (tell o s) ∧ Below n0 W w1 :=
  both_ask' h hn fun S h1 h2 => ask_any h1 h2 hp hb o
theorem half_doc' {W w1 : World} {n0 b c : Nat} {ws0 : List Int} {s : St} {mv : Int} {v1 : Value} {o : O} (h : Half W w1 n0 b c ws0 s (nxt ws0 o s mv) mv (nmv o mv) v1 (tell o s)) (HD : ∀ T, RmS w1 T c ws0 s mv → (∀ k, T k → k < w1.heap.size) → Calls Try.prog 21 #[.pointer (some ⟨c, 0, none⟩), .agg #[.int .i64 o.k, .int .i64 o.th, .int .i64 o.ad, .int .i64 o.n, .int .u64 o.old, .int .u64 o.w]] w1 (DocPost w1 T c ws0 (tell o s) (nxt ws0 o s mv) (nmv o mv))) :
    Calls Try.prog 21 #[.pointer (some ⟨c, 0, none⟩), .agg #[.int .i64 o.k, .int .i64 o.th, .int .i64 o.ad, .int .i64 o.n, .int .u64 o.old, .int .u64 o.w]] w1 fun e w2 => ∃ v2, e = .returned v2 ∧ ToldAt w2 (fun k => W.heap.size ≤ k) v1 (tell o s) ∧ ToldAt w2 (fun k => w1.heap.size ≤ k) v2 (tell o s) ∧ Both w2 n0 b c ws0 (nxt ws0 o s mv) (nmv o mv) ∧ Below n0 w1 w2 := by
  obtain ⟨⟨S, T, h1, h2, h3, h4, h5⟩, ht, hs, hlo⟩ := h
  refine (HD T h2 (fun k hk => by have := (h4 k hk).2; omega)).mono ?_
  rintro e w2 ⟨v2, rfl, ht2, hm, hf⟩
  have hs2 := hf.size
  refine ⟨v2, rfl, ht.fr hf (fun k hk _ hT => by have := (h4 k hT).2; omega), ht2, ⟨S, _, h1.fr hf (fun k hk _ hT => h5 k hk hT), hm.narrow, fun k hk => ⟨(h3 k hk).1, by have := (h3 k hk).2; omega⟩, fun k hk => ⟨?_, hk.2⟩, fun k hk hT => ?_⟩, hf.below (fun k hk => (h4 k hk).1) (by omega)⟩
  · rcases hk.1 with hk | hk
    · exact (h4 k hk).1
    · omega
  · rcases hT.1 with hT | hT
    · exact h5 k hk hT
    · have := (h3 k hk).2; omega
theorem half_doc {W w1 : World} {n0 b c : Nat} {ws0 : List Int} {s : St} {mv : Int} {v1 : Value} {o : O} (h : Half W w1 n0 b c ws0 s (nxt ws0 o s mv) mv (nmv o mv) v1 (tell o s)) (hp : Pl ws0 s) (hb : (s.lg.length + 1 + (s.lg.length + 1) / 4 + 192) * 56 ≤ 281474976710656) :
    Calls Try.prog 21 #[.pointer (some ⟨c, 0, none⟩), .agg #[.int .i64 o.k, .int .i64 o.th, .int .i64 o.ad, .int .i64 o.n, .int .u64 o.old, .int .u64 o.w]] w1 fun e w2 => ∃ v2, e = .returned v2 ∧ ToldAt w2 (fun k => W.heap.size ≤ k) v1 (tell o s) ∧ ToldAt w2 (fun k => w1.heap.size ≤ k) v2 (tell o s) ∧ Both w2 n0 b c ws0 (nxt ws0 o s mv) (nmv o mv) ∧ Below n0 w1 w2 :=
  half_doc' h fun T h1 h2 => doc_any h1 h2 hp hb o
theorem both_words {W : World} {n0 b c : Nat} {ws0 : List Int} {s : St} {mv : Int} (h : Both W n0 b c ws0 s mv) (hl : s.ws.length ≤ 8192) : ∃ vn, W.cell? ⟨c, 1, none⟩ = some vn ∧ Calls Try.prog 15 #[.pointer (some ⟨b, 0, none⟩)] W fun e w' => ∃ v, e = .returned v ∧ w'.cell? ⟨c, 1, none⟩ = some vn ∧ (Calls Try.prog 22 #[v, vn] w' fun e w'' => e = .returned (.bool true) ∧ Below w'.heap.size w' w'') ∧ Both w' n0 b c ws0 s mv ∧ Below W.heap.size W w' := by
  obtain ⟨S, T, h1, ⟨vf, vn, vt, h2⟩, h3, h4, h5⟩ := id h
  refine ⟨vn, h2.c1, ?_⟩
  refine (words_s h1).mono ?_
  rintro e w' ⟨v, rfl, hv, hB⟩
  have h3 := h2.below hB
  exact ⟨v, rfl, h3.c1, sameWords_same hv h3.hn (by omega), h.below hB, hB⟩
end Go.Proofs.Ytilbkminekojcaa.Me
