/-
  The program's calls and the document's, in one form each: an answer and a state behind it that are functions of the state ahead.
-/
import Derived.Test.YtilbkminekojcaaRefBack
import Derived.Test.YtilbkminekojcaaMemTwo
namespace Go.Proofs.Ytilbkminekojcaa.Me
open Go.RowKit Mr
set_option linter.unusedVariables false
def RmS (W : World) (S : Nat → Prop) (b : Nat) (fs : List Int) (s : St) (mv : Int) : Prop := ∃ vf vn vt, Rm W S b vf vn vt fs s.ws s.lg mv
def inR (ad : Int) (s : St) : Prop := 0 ≤ ad ∧ ad < s.ws.length
instance (ad : Int) (s : St) : Decidable (inR ad s) := inferInstanceAs (Decidable (_ ∧ _))
def ldR (ad : Int) (s : St) : Int × Int := if inR ad s then (s.ws[ad.toNat]?.getD 0, 0) else (0, 20)
def swR (ad old : Int) (s : St) : Int × Bool × Int := if inR ad s then (s.ws[ad.toNat]?.getD 0, s.ws[ad.toNat]?.getD 0 == old, 0) else (0, false, 20)
def stR (ad : Int) (s : St) : Int := if inR ad s then 0 else 20
def wrR (ad : Int) (s : St) : Int × Int × Int := if inR ad s then ((lastW ad (ent s.lg 0 s.lg.length)).1, (lastW ad (ent s.lg 0 s.lg.length)).2, 0) else (0, 0, 20)
def inB (c : Int) (s : St) : Prop := 0 ≤ c ∧ c ≤ s.lg.length
instance (c : Int) (s : St) : Decidable (inB c s) := inferInstanceAs (Decidable (_ ∧ _))
def bkR (c : Int) (s : St) : Int := if inB c s then 0 else 21
def bkS (ws0 : List Int) (c : Int) (s : St) : St := if inB c s then ⟨(play ws0 (s.lg.take c.toNat)).1, s.lg.take c.toNat, (play ws0 (s.lg.take c.toNat)).2⟩ else s
section
variable {W : World} {S : Nat → Prop} {b : Nat} {s : St} {mv : Int} {ws0 : List Int}
theorem MemS.kept {W' : World} (h : MemS W S b s mv) (hk : ∀ k, S k → k < W.heap.size → W'.heap[k]? = W.heap[k]?) : MemS W' S b s mv := by
  obtain ⟨vw, vl, va, h⟩ := h; exact ⟨vw, vl, va, h.kept hk⟩
theorem RmS.below {W' : World} (h : RmS W S b ws0 s mv) (hb : Below W.heap.size W W') : RmS W' S b ws0 s mv := by
  obtain ⟨vw, vl, va, h⟩ := h; exact ⟨vw, vl, va, h.below hb⟩
theorem RmS.mono {T : Nat → Prop} (h : RmS W S b ws0 s mv) (hT : ∀ k, S k → T k) : RmS W T b ws0 s mv := by
  obtain ⟨vw, vl, va, h⟩ := h; exact ⟨vw, vl, va, h.mono hT⟩
theorem RmS.fr {W' : World} {T : Nat → Prop} (h : RmS W S b ws0 s mv) (hb : Fr W W' T) (hd : ∀ k, S k → k < W.heap.size → ¬ T k) : RmS W' S b ws0 s mv := by
  obtain ⟨vw, vl, va, h⟩ := h; exact ⟨vw, vl, va, h.fr hb hd⟩
theorem RmS.narrow (h : RmS W S b ws0 s mv) : RmS W (fun k => S k ∧ k < W.heap.size) b ws0 s mv := by
  obtain ⟨vw, vl, va, h⟩ := h; exact ⟨vw, vl, va, h.narrow⟩
theorem inR_cases (ad : Int) (s : St) : (∃ i : Nat, ad = i ∧ i < s.ws.length) ∨ (¬ inR ad s ∧ (ad < 0 ∨ s.ws.length ≤ ad)) := by
  by_cases h : inR ad s
  · exact .inl ⟨ad.toNat, by have := h.1; omega, by have := h.1; have := h.2; omega⟩
  · refine .inr ⟨h, ?_⟩
    unfold inR at h
    omega
theorem inR_nat {i : Nat} (h : i < s.ws.length) : inR (i : Int) s := ⟨by omega, by omega⟩
theorem stp_load (th : Int) (i : Nat) (h : i < s.ws.length) : stp ⟨0, th, i, 0, 0, 0⟩ mv s = ⟨s.ws, s.lg ++ [⟨mv, th, 1, i, 0, 0, s.ws[i]?.getD 0⟩], s.ah⟩ := by simp [stp, h, mkA, putA, wrt]
theorem stp_store (th x : Int) (i : Nat) (h : i < s.ws.length) : stp ⟨1, th, i, 0, 0, x⟩ mv s = ⟨s.ws.set i x, s.lg ++ [⟨mv, th, 2, i, 0, x, 0⟩], s.ah ++ [s.ws[i]?.getD 0]⟩ := by simp [stp, h, mkA, putA, wrt]
theorem stp_hit (th old x : Int) (i : Nat) (h : i < s.ws.length) (ho : s.ws[i]?.getD 0 = old) : stp ⟨2, th, i, 0, old, x⟩ mv s = ⟨s.ws.set i x, s.lg ++ [⟨mv, th, 3, i, old, x, old⟩], s.ah ++ [old]⟩ := by
  have ho' : s.ws[i] = old := by simpa [h] using ho
  simp [stp, h, mkA, putA, wrt, ho']
theorem stp_miss (th old x : Int) (i : Nat) (h : i < s.ws.length) (ho : s.ws[i]?.getD 0 ≠ old) : stp ⟨2, th, i, 0, old, x⟩ mv s = ⟨s.ws, s.lg ++ [⟨mv, th, 3, i, old, x, s.ws[i]?.getD 0⟩], s.ah⟩ := by
  have ho' : ¬ s.ws[i] = old := by simpa [h] using ho
  simp [stp, h, mkA, putA, wrt, ho']
theorem stp_out (o : O) (h : ¬ inR o.ad s) : stp o mv s = s := if_neg h
theorem load_s (h : MemS W S b s mv) (hb : Roomy s.lg s.ah) (th ad : Int) : Calls Try.prog 25 #[.pointer (some ⟨b, 0, none⟩), .int .i64 th, .int .i64 ad] W fun e w' => e = .returned (.tuple #[.int .u64 (ldR ad s).1, .int .i64 (ldR ad s).2]) ∧ MemS w' (fun k => S k ∨ W.heap.size ≤ k) b (stp ⟨0, th, ad, 0, 0, 0⟩ mv s) mv ∧ Fr W w' S := by
  obtain ⟨vw, vl, va, h⟩ := h
  rcases inR_cases ad s with ⟨i, rfl, hi⟩ | ⟨hn, ho⟩
  · rw [stp_load th i hi]
    refine (load_ok h hb th i hi).mono ?_
    rintro e w' ⟨h1, ⟨vl', h2⟩, h3⟩
    exact ⟨by rw [h1]; simp [ldR, inR_nat hi], ⟨_, _, _, h2⟩, h3⟩
  · rw [stp_out _ hn]
    refine (load_no h th ad ho).mono ?_
    rintro e w' ⟨h1, rfl⟩
    exact ⟨by rw [h1]; simp [ldR, hn], ⟨_, _, _, h.mono (fun _ => .inl)⟩, Fr.refl _ _⟩
theorem store_s (h : MemS W S b s mv) (hb : Roomy s.lg s.ah) (th ad x : Int) : Calls Try.prog 28 #[.pointer (some ⟨b, 0, none⟩), .int .i64 th, .int .i64 ad, .int .u64 x] W fun e w' => e = .returned (.int .i64 (stR ad s)) ∧ MemS w' (fun k => S k ∨ W.heap.size ≤ k) b (stp ⟨1, th, ad, 0, 0, x⟩ mv s) mv ∧ Fr W w' S := by
  obtain ⟨vw, vl, va, h⟩ := h
  rcases inR_cases ad s with ⟨i, rfl, hi⟩ | ⟨hn, ho⟩
  · rw [stp_store th x i hi]
    refine (store_ok h hb th x i hi).mono ?_
    rintro e w' ⟨h1, ⟨vl', va', h2⟩, h3⟩
    exact ⟨by rw [h1]; simp [stR, inR_nat hi], ⟨_, _, _, h2⟩, h3⟩
  · rw [stp_out _ hn]
    refine (store_no h th ad x ho).mono ?_
    rintro e w' ⟨h1, rfl⟩
    exact ⟨by rw [h1]; simp [stR, hn], ⟨_, _, _, h.mono (fun _ => .inl)⟩, Fr.refl _ _⟩
theorem swap_s (h : MemS W S b s mv) (hb : Roomy s.lg s.ah) (th ad old x : Int) : Calls Try.prog 26 #[.pointer (some ⟨b, 0, none⟩), .int .i64 th, .int .i64 ad, .int .u64 old, .int .u64 x] W fun e w' => e = .returned (.tuple #[.int .u64 (swR ad old s).1, .bool (swR ad old s).2.1, .int .i64 (swR ad old s).2.2]) ∧ MemS w' (fun k => S k ∨ W.heap.size ≤ k) b (stp ⟨2, th, ad, 0, old, x⟩ mv s) mv ∧ Fr W w' S := by
  obtain ⟨vw, vl, va, h⟩ := h
  rcases inR_cases ad s with ⟨i, rfl, hi⟩ | ⟨hn, ho⟩
  · by_cases he : s.ws[i]?.getD 0 = old
    · rw [stp_hit th old x i hi he]
      refine (swap_hit h hb th old x i hi he).mono ?_
      rintro e w' ⟨h1, ⟨vl', va', h2⟩, h3⟩
      exact ⟨by rw [h1]; simp only [swR, inR_nat hi, if_true, Int.toNat_natCast, he, BEq.rfl], ⟨_, _, _, h2⟩, h3⟩
    · rw [stp_miss th old x i hi he]
      refine (swap_miss h hb th old x i hi he).mono ?_
      rintro e w' ⟨h1, ⟨vl', h2⟩, h3⟩
      have hf : (s.ws[i]?.getD 0 == old) = false := by simpa using he
      exact ⟨by rw [h1]; simp only [swR, inR_nat hi, if_true, Int.toNat_natCast, hf], ⟨_, _, _, h2⟩, h3⟩
  · rw [stp_out _ hn]
    refine (swap_no h th ad old x ho).mono ?_
    rintro e w' ⟨h1, rfl⟩
    exact ⟨by rw [h1]; simp [swR, hn], ⟨_, _, _, h.mono (fun _ => .inl)⟩, Fr.refl _ _⟩
theorem rload_s (h : RmS W S b ws0 s mv) (hb : (s.lg.length + 1 + (s.lg.length + 1) / 4 + 192) * 56 ≤ 281474976710656) (th ad : Int) : Calls Try.prog 38 #[.pointer (some ⟨b, 0, none⟩), .int .i64 th, .int .i64 ad] W fun e w' => e = .returned (.tuple #[.int .u64 (ldR ad s).1, .int .i64 (ldR ad s).2]) ∧ RmS w' (fun k => S k ∨ W.heap.size ≤ k) b ws0 (stp ⟨0, th, ad, 0, 0, 0⟩ mv s) mv ∧ Fr W w' S := by
  obtain ⟨vw, vl, va, h⟩ := h
  rcases inR_cases ad s with ⟨i, rfl, hi⟩ | ⟨hn, ho⟩
  · rw [stp_load th i hi]
    refine (rload_ok h hb th i hi).mono ?_
    rintro e w' ⟨h1, ⟨vl', h2⟩, h3⟩
    exact ⟨by rw [h1]; simp [ldR, inR_nat hi], ⟨_, _, _, h2⟩, h3⟩
  · rw [stp_out _ hn]
    refine (rload_no h th ad ho).mono ?_
    rintro e w' ⟨h1, rfl⟩
    exact ⟨by rw [h1]; simp [ldR, hn], ⟨_, _, _, h.mono (fun _ => .inl)⟩, Fr.refl _ _⟩
theorem rstore_s (h : RmS W S b ws0 s mv) (hb : (s.lg.length + 1 + (s.lg.length + 1) / 4 + 192) * 56 ≤ 281474976710656) (th ad x : Int) : Calls Try.prog 39 #[.pointer (some ⟨b, 0, none⟩), .int .i64 th, .int .i64 ad, .int .u64 x] W fun e w' => e = .returned (.int .i64 (stR ad s)) ∧ RmS w' (fun k => S k ∨ W.heap.size ≤ k) b ws0 (stp ⟨1, th, ad, 0, 0, x⟩ mv s) mv ∧ Fr W w' S := by
  obtain ⟨vw, vl, va, h⟩ := h
  rcases inR_cases ad s with ⟨i, rfl, hi⟩ | ⟨hn, ho⟩
  · rw [stp_store th x i hi]
    refine (rstore_ok h hb th x i hi).mono ?_
    rintro e w' ⟨h1, ⟨vl', h2⟩, h3⟩
    exact ⟨by rw [h1]; simp [stR, inR_nat hi], ⟨_, _, _, h2⟩, h3⟩
  · rw [stp_out _ hn]
    refine (rstore_no h th ad x ho).mono ?_
    rintro e w' ⟨h1, rfl⟩
    exact ⟨by rw [h1]; simp [stR, hn], ⟨_, _, _, h.mono (fun _ => .inl)⟩, Fr.refl _ _⟩
theorem rswap_s (h : RmS W S b ws0 s mv) (hb : (s.lg.length + 1 + (s.lg.length + 1) / 4 + 192) * 56 ≤ 281474976710656) (th ad old x : Int) : Calls Try.prog 40 #[.pointer (some ⟨b, 0, none⟩), .int .i64 th, .int .i64 ad, .int .u64 old, .int .u64 x] W fun e w' => e = .returned (.tuple #[.int .u64 (swR ad old s).1, .bool (swR ad old s).2.1, .int .i64 (swR ad old s).2.2]) ∧ RmS w' (fun k => S k ∨ W.heap.size ≤ k) b ws0 (stp ⟨2, th, ad, 0, old, x⟩ mv s) mv ∧ Fr W w' S := by
  obtain ⟨vw, vl, va, h⟩ := h
  rcases inR_cases ad s with ⟨i, rfl, hi⟩ | ⟨hn, ho⟩
  · by_cases he : s.ws[i]?.getD 0 = old
    · rw [stp_hit th old x i hi he]
      refine (rswap_hit h hb th old x i hi he).mono ?_
      rintro e w' ⟨h1, ⟨vl', h2⟩, h3⟩
      exact ⟨by rw [h1]; simp only [swR, inR_nat hi, if_true, Int.toNat_natCast, he, BEq.rfl], ⟨_, _, _, h2⟩, h3⟩
    · rw [stp_miss th old x i hi he]
      refine (rswap_miss h hb th old x i hi he).mono ?_
      rintro e w' ⟨h1, ⟨vl', h2⟩, h3⟩
      have hf : (s.ws[i]?.getD 0 == old) = false := by simpa using he
      exact ⟨by rw [h1]; simp only [swR, inR_nat hi, if_true, Int.toNat_natCast, hf], ⟨_, _, _, h2⟩, h3⟩
  · rw [stp_out _ hn]
    refine (rswap_no h th ad old x ho).mono ?_
    rintro e w' ⟨h1, rfl⟩
    exact ⟨by rw [h1]; simp [swR, hn], ⟨_, _, _, h.mono (fun _ => .inl)⟩, Fr.refl _ _⟩
theorem inB_cases (c : Int) (s : St) : (∃ i : Nat, c = i ∧ i ≤ s.lg.length) ∨ (¬ inB c s ∧ (c < 0 ∨ s.lg.length < c)) := by
  by_cases h : inB c s
  · exact .inl ⟨c.toNat, by have := h.1; omega, by have := h.1; have := h.2; omega⟩
  · refine .inr ⟨h, ?_⟩
    unfold inB at h
    omega
theorem back_s (h : MemS W S b s mv) (hp : Pl ws0 s) (hsm : s.lg.length ≤ 5026338869641) (c : Int) : Calls Try.prog 14 #[.pointer (some ⟨b, 0, none⟩), .int .i64 c] W fun e w' => e = .returned (.int .i64 (bkR c s)) ∧ MemS w' (fun k => S k ∨ W.heap.size ≤ k) b (bkS ws0 c s) mv ∧ Fr W w' S := by
  obtain ⟨vw, vl, va, h⟩ := h
  rcases inB_cases c s with ⟨i, rfl, hi⟩ | ⟨hn, ho⟩
  · have hb : inB (i : Int) s := ⟨by omega, by omega⟩
    rw [hp.ws, hp.ah] at h
    refine (back_to h hp.ok i hi hsm).mono ?_
    rintro e w' ⟨h1, ⟨vl', va', h2⟩, h3⟩
    refine ⟨by rw [h1]; simp [bkR, hb], ?_, h3⟩
    have e1 : bkS ws0 (i : Int) s = ⟨(play ws0 (s.lg.take i)).1, s.lg.take i, (play ws0 (s.lg.take i)).2⟩ := by simp [bkS, hb]
    rw [e1]
    exact ⟨_, _, _, h2.mono (fun _ => .inl)⟩
  · refine (back_no h c ho).mono ?_
    rintro e w' ⟨h1, h2⟩
    have e1 : bkS ws0 c s = s := by simp [bkS, hn]
    rw [e1]
    exact ⟨by rw [h1]; simp [bkR, hn], ⟨_, _, _, (h.below h2).mono (fun _ => .inl)⟩, Fr.of_below h2⟩
theorem rback_s (h : RmS W S b ws0 s mv) (hp : Pl ws0 s) (hb : (s.lg.length + s.lg.length / 4 + 192) * 56 ≤ 281474976710656) (c : Int) : Calls Try.prog 41 #[.pointer (some ⟨b, 0, none⟩), .int .i64 c] W fun e w' => e = .returned (.int .i64 (bkR c s)) ∧ RmS w' (fun k => S k ∨ W.heap.size ≤ k) b ws0 (bkS ws0 c s) mv ∧ Fr W w' S := by
  obtain ⟨vw, vl, va, h⟩ := h
  rcases inB_cases c s with ⟨i, rfl, hi⟩ | ⟨hn, ho⟩
  · have hc : inB (i : Int) s := ⟨by omega, by omega⟩
    refine (rback_to h hp.ok hb i hi).mono ?_
    rintro e w' ⟨h1, ⟨vl', va', h2⟩, h3⟩
    refine ⟨by rw [h1]; simp [bkR, hc], ?_, h3⟩
    have e1 : bkS ws0 (i : Int) s = ⟨(play ws0 (s.lg.take i)).1, s.lg.take i, (play ws0 (s.lg.take i)).2⟩ := by simp [bkS, hc]
    rw [e1]
    rw [← play_words] at h2
    exact ⟨_, _, _, h2⟩
  · refine (rback_no h c ho).mono ?_
    rintro e w' ⟨h1, rfl⟩
    have e1 : bkS ws0 c s = s := by simp [bkS, hn]
    rw [e1]
    exact ⟨by rw [h1]; simp [bkR, hn], ⟨_, _, _, h.mono (fun _ => .inl)⟩, Fr.refl _ _⟩
theorem rwriter_s (h : RmS W S b ws0 s mv) (hsm : s.lg.length ≤ 5026338869641) (ad : Int) : Calls Try.prog 42 #[.pointer (some ⟨b, 0, none⟩), .int .i64 ad] W fun e w' => e = .returned (.tuple #[.int .i64 (wrR ad s).1, .int .i64 (wrR ad s).2.1, .int .i64 (wrR ad s).2.2]) ∧ RmS w' (fun k => S k ∨ W.heap.size ≤ k) b ws0 s mv ∧ Fr W w' S := by
  obtain ⟨vw, vl, va, h⟩ := h
  rcases inR_cases ad s with ⟨i, rfl, hi⟩ | ⟨hn, ho⟩
  · refine (rwriter_any h hsm i hi).mono ?_
    rintro e w' ⟨h1, h2⟩
    exact ⟨by rw [h1]; simp [wrR, inR_nat hi], ⟨_, _, _, (h.below h2).mono (fun _ => .inl)⟩, Fr.of_below h2⟩
  · refine (rwriter_no h ad ho).mono ?_
    rintro e w' ⟨h1, rfl⟩
    exact ⟨by rw [h1]; simp [wrR, hn], ⟨_, _, _, h.mono (fun _ => .inl)⟩, Fr.refl _ _⟩
theorem now_s (h : MemS W S b s mv) (x : Int) : Calls Try.prog 16 #[.pointer (some ⟨b, 0, none⟩), .int .i64 x] W fun e w' => e = .returned (.tuple #[]) ∧ MemS w' (fun k => S k ∨ W.heap.size ≤ k) b s x ∧ Fr W w' S := by
  obtain ⟨vw, vl, va, h⟩ := h
  refine (now_any h x).mono ?_
  rintro e w' ⟨h1, h2, h3⟩
  exact ⟨h1, ⟨vw, vl, va, h2.mono (fun _ => .inl)⟩, h3⟩
theorem words_s (h : MemS W S b s mv) : Calls Try.prog 15 #[.pointer (some ⟨b, 0, none⟩)] W fun e w' => ∃ v, e = .returned v ∧ Has w' (fun k => W.heap.size ≤ k) 31 1 v s.ws.length (wrd s.ws) ∧ Below W.heap.size W w' := by
  obtain ⟨vw, vl, va, h⟩ := h
  exact words_any h
theorem count_s (h : MemS W S b s mv) : Calls Try.prog 12 #[.pointer (some ⟨b, 0, none⟩)] W fun e w' => e = .returned (.int .i64 (s.lg.length : Int)) ∧ w' = W := by
  obtain ⟨vw, vl, va, h⟩ := h
  exact count_any h
theorem size_s (h : MemS W S b s mv) : Calls Try.prog 24 #[.pointer (some ⟨b, 0, none⟩)] W fun e w' => e = .returned (.int .i64 (s.ws.length : Int)) ∧ w' = W := by
  obtain ⟨vw, vl, va, h⟩ := h
  exact size_any h
end
end Go.Proofs.Ytilbkminekojcaa.Me
