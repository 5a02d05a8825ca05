import Derived.Test.YtnapnhmmopajfaaGreatJ02
/-
  Load, Store, Swap by their contracts.
-/
namespace Go.Proofs.YtnapnhmmopajfaaGreat.Me
open Go.RowKit Mr
section
variable {W : World} {S : Nat → Prop} {b : Nat} {vw vl va : Value} {ws : List Int} {mv : Int} {lg : List Acc} {ah : List Int}
theorem load_no (h : Mem W S b vw vl va ws mv lg ah) (th ad : Int) (h0 : ad < 0 ∨ ws.length ≤ ad) :
    Calls Tryz.prog 80 #[.pointer (some ⟨b, 0, none⟩), .int .i64 th, .int .i64 ad] W fun e w' => e = .returned (.tuple #[.int .u64 0, .int .i64 20]) ∧ w' = W := by
  have C := has_no h ad h0
  clear h h0
  go_enter Tryz.func80, Tryz.ntmps80
  go_wp2_with (go_at_call 92; refine C.mono ?_; rintro e w' ⟨rfl, rfl⟩)
  go_ret2
  exact ⟨rfl, rfl⟩
theorem store_no (h : Mem W S b vw vl va ws mv lg ah) (th ad x : Int) (h0 : ad < 0 ∨ ws.length ≤ ad) :
    Calls Tryz.prog 94 #[.pointer (some ⟨b, 0, none⟩), .int .i64 th, .int .i64 ad, .int .u64 x] W fun e w' => e = .returned (.int .i64 20) ∧ w' = W := by
  have C := has_no h ad h0
  clear h h0
  go_enter Tryz.func94, Tryz.ntmps94
  go_wp2_with (go_at_call 92; refine C.mono ?_; rintro e w' ⟨rfl, rfl⟩)
  go_ret
  exact ⟨rfl, rfl⟩
theorem swap_no (h : Mem W S b vw vl va ws mv lg ah) (th ad old x : Int) (h0 : ad < 0 ∨ ws.length ≤ ad) :
    Calls Tryz.prog 104 #[.pointer (some ⟨b, 0, none⟩), .int .i64 th, .int .i64 ad, .int .u64 old, .int .u64 x] W fun e w' => e = .returned (.tuple #[.int .u64 0, .bool false, .int .i64 20]) ∧ w' = W := by
  have C := has_no h ad h0
  clear h h0
  go_enter Tryz.func104, Tryz.ntmps104
  go_wp2_with (go_at_call 92; refine C.mono ?_; rintro e w' ⟨rfl, rfl⟩)
  go_ret3
  exact ⟨rfl, rfl⟩
theorem load_nil (th ad : Int) (w : World) :
    Calls Tryz.prog 80 #[.pointer none, .int .i64 th, .int .i64 ad] w fun e w' => e = .returned (.tuple #[.int .u64 0, .int .i64 20]) ∧ w' = w := by
  go_enter Tryz.func80, Tryz.ntmps80
  go_wp2_with (go_at_call 92; refine (has_nil _ _).mono ?_; rintro e w' ⟨rfl, rfl⟩)
  go_ret2
  exact ⟨rfl, rfl⟩
theorem store_nil (th ad x : Int) (w : World) :
    Calls Tryz.prog 94 #[.pointer none, .int .i64 th, .int .i64 ad, .int .u64 x] w fun e w' => e = .returned (.int .i64 20) ∧ w' = w := by
  go_enter Tryz.func94, Tryz.ntmps94
  go_wp2_with (go_at_call 92; refine (has_nil _ _).mono ?_; rintro e w' ⟨rfl, rfl⟩)
  go_ret
  exact ⟨rfl, rfl⟩
theorem swap_nil (th ad old x : Int) (w : World) :
    Calls Tryz.prog 104 #[.pointer none, .int .i64 th, .int .i64 ad, .int .u64 old, .int .u64 x] w fun e w' => e = .returned (.tuple #[.int .u64 0, .bool false, .int .i64 20]) ∧ w' = w := by
  go_enter Tryz.func104, Tryz.ntmps104
  go_wp2_with (go_at_call 92; refine (has_nil _ _).mono ?_; rintro e w' ⟨rfl, rfl⟩)
  go_ret3
  exact ⟨rfl, rfl⟩

/-- What the index reads. -/
theorem Mem.at (h : Mem W S b vw vl va ws mv lg ah) (i : Nat) (hi : i < ws.length) : ∃ gw cw, vw = .slice (some ⟨gw, 0, none⟩) ws.length cw ∧ W.cell? ⟨gw, i, none⟩ = some (.int .u64 (ws[i]?.getD 0)) ∧ W.cell? ⟨b, 0, none⟩ = some (.slice (some ⟨gw, 0, none⟩) ws.length cw) := by
  obtain ⟨gw, cw, hvw, hgS, hgl, hgc, hgm⟩ := h.hw.there (by omega)
  refine ⟨gw, cw, hvw, h.hw.cells (g := gw) (by rw [hvw]; rfl) i _ (wrd_get ws i hi), ?_⟩
  rw [← hvw]; exact h.c0

/-- The bounds that an access more asks. -/
def Roomy (lg : List Acc) (ah : List Int) : Prop := (lg.length + 1 + (lg.length + 1) / 4 + 192) * 56 ≤ 281474976710656 ∧ (ah.length + 1 + (ah.length + 1) / 4 + 192) * 8 ≤ 281474976710656

set_option maxRecDepth 100000 in
theorem load_ok (h : Mem W S b vw vl va ws mv lg ah) (hb : Roomy lg ah) (th : Int) (i : Nat) (hi : i < ws.length) :
    Calls Tryz.prog 80 #[.pointer (some ⟨b, 0, none⟩), .int .i64 th, .int .i64 i] W fun e w' => e = .returned (.tuple #[.int .u64 (ws[i]?.getD 0), .int .i64 0]) ∧
      (∃ vl', Mem w' (fun k => S k ∨ W.heap.size ≤ k) b vw vl' va ws mv (lg ++ [⟨mv, th, 1, i, 0, 0, ws[i]?.getD 0⟩]) ah) ∧ Fr W w' S := by
  have C := has_yes h i (by omega) (by omega)
  have D := note_any h hb.1 0 th 1 i 0 0 (ws[i]?.getD 0)
  obtain ⟨gw, cw, hvw, c1, c0⟩ := h.at i hi
  generalize ws[i]?.getD 0 = y at *
  have hi := Mr.hid hi
  have hi' : i < ws.length := hi.out
  generalize ws.length = n at *
  have h := Mr.hid h
  clear hb
  go_enter Tryz.func80, Tryz.ntmps80
  go_wp2_with (first | (go_at_call 92; refine C.mono ?_; rintro e w' ⟨rfl, rfl⟩) | (go_at_call 93; refine D.mono ?_; rintro e w1 ⟨rfl, hm, hf⟩))
  go_ret2
  exact ⟨rfl, hm, hf⟩
set_option maxRecDepth 100000 in
theorem store_ok (h : Mem W S b vw vl va ws mv lg ah) (hb : Roomy lg ah) (th x : Int) (i : Nat) (hi : i < ws.length) :
    Calls Tryz.prog 94 #[.pointer (some ⟨b, 0, none⟩), .int .i64 th, .int .i64 i, .int .u64 x] W fun e w' => e = .returned (.int .i64 0) ∧
      (∃ vl' va', Mem w' (fun k => S k ∨ W.heap.size ≤ k) b vw vl' va' (ws.set i x) mv (lg ++ [⟨mv, th, 2, i, 0, x, 0⟩]) (ah ++ [ws[i]?.getD 0])) ∧ Fr W w' S := by
  have C := has_yes h i (by omega) (by omega)
  have D := note_any h hb.1 0 th 2 i 0 x 0
  go_enter Tryz.func94, Tryz.ntmps94
  go_wp2_with (first | (go_at_call 92; refine C.mono ?_; rintro e w' ⟨rfl, rfl⟩) | (go_at_call 93; refine D.mono ?_; rintro e w1 ⟨rfl, ⟨vl', hm⟩, hf⟩) | (go_at_call 101; refine (write_any hm hb.2 i hi x).mono ?_; rintro e w2 ⟨rfl, ⟨va', hm2⟩, hf2⟩))
  go_ret
  have hs := hf.size
  exact ⟨rfl, ⟨_, _, hm2.mono (fun k hk => by rcases hk with (hk | hk) | hk; exact .inl hk; exact .inr hk; exact .inr (by omega))⟩, hf.trans hf2⟩
set_option maxRecDepth 100000 in
theorem swap_hit (h : Mem W S b vw vl va ws mv lg ah) (hb : Roomy lg ah) (th old x : Int) (i : Nat) (hi : i < ws.length) (ho : ws[i]?.getD 0 = old) :
    Calls Tryz.prog 104 #[.pointer (some ⟨b, 0, none⟩), .int .i64 th, .int .i64 i, .int .u64 old, .int .u64 x] W fun e w' => e = .returned (.tuple #[.int .u64 old, .bool true, .int .i64 0]) ∧
      (∃ vl' va', Mem w' (fun k => S k ∨ W.heap.size ≤ k) b vw vl' va' (ws.set i x) mv (lg ++ [⟨mv, th, 3, i, old, x, old⟩]) (ah ++ [old])) ∧ Fr W w' S := by
  have C := has_yes h i (by omega) (by omega)
  have D := note_any h hb.1 0 th 3 i old x old
  have E := fun {W' : World} {S' : Nat → Prop} {vl' : Value} {lg' : List Acc} (hm : Mem W' S' b vw vl' va ws mv lg' ah) => write_any hm hb.2 i hi x
  obtain ⟨gw, cw, hvw, c1, c0⟩ := h.at i hi
  rw [ho] at c1
  simp only [ho] at E
  clear ho hb h
  generalize hn : ws.length = n at *
  clear hn
  go_enter Tryz.func104, Tryz.ntmps104
  go_wp2_with (first | (go_at_call 92; refine C.mono ?_; rintro e w' ⟨rfl, rfl⟩) | (go_at_call 93; refine D.mono ?_; rintro e w1 ⟨rfl, ⟨vl', hm⟩, hf⟩) | (go_at_call 101; refine (E hm).mono ?_; rintro e w2 ⟨rfl, ⟨va', hm2⟩, hf2⟩))
  go_ret3
  have hs := hf.size
  exact ⟨rfl, ⟨_, _, hm2.mono (fun k hk => by rcases hk with (hk | hk) | hk; exact .inl hk; exact .inr hk; exact .inr (by omega))⟩, hf.trans hf2⟩
set_option maxRecDepth 100000 in
theorem swap_miss (h : Mem W S b vw vl va ws mv lg ah) (hb : Roomy lg ah) (th old x : Int) (i : Nat) (hi : i < ws.length) (ho : ws[i]?.getD 0 ≠ old) :
    Calls Tryz.prog 104 #[.pointer (some ⟨b, 0, none⟩), .int .i64 th, .int .i64 i, .int .u64 old, .int .u64 x] W fun e w' => e = .returned (.tuple #[.int .u64 (ws[i]?.getD 0), .bool false, .int .i64 0]) ∧
      (∃ vl', Mem w' (fun k => S k ∨ W.heap.size ≤ k) b vw vl' va ws mv (lg ++ [⟨mv, th, 3, i, old, x, ws[i]?.getD 0⟩]) ah) ∧ Fr W w' S := by
  have C := has_yes h i (by omega) (by omega)
  have D := note_any h hb.1 0 th 3 i old x (ws[i]?.getD 0)
  obtain ⟨gw, cw, hvw, c1, c0⟩ := h.at i hi
  generalize ws[i]?.getD 0 = y at *
  have hi := Mr.hid hi
  have hi' : i < ws.length := hi.out
  generalize ws.length = n at *
  have h := Mr.hid h
  clear hb
  have hne : (y != old) = true := by simpa using ho
  go_enter Tryz.func104, Tryz.ntmps104
  go_wp2_with (first | (go_at_call 92; refine C.mono ?_; rintro e w' ⟨rfl, rfl⟩) | (go_at_call 93; refine D.mono ?_; rintro e w1 ⟨rfl, hm, hf⟩))
  go_ret3
  exact ⟨rfl, hm, hf⟩
end
end Go.Proofs.YtnapnhmmopajfaaGreat.Me
/-
  THE MEMORY's accesses, all three: for the seats whose desks store, too.
-/
