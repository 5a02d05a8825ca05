/-
  THE DESK, further: Store, Now, Point by their contracts.
-/
import Derived.Test.YtpckcfdjgpdooaaMacDesk2
namespace Go.Proofs.Ytpckcfdjgpdooaa.Ma
open Go.RowKit Mr Me
section
variable {W0 : World} {U0 S0 X0 : Nat → Prop} {p : Ph} {i : Nat} {now : Int} {X : Nat → Obj → Prop} {s : Ss} {W : World} {sp : Bool}
def Ss.stores (s : Ss) (i : Nat) (now : Int) (ad : Nat) (x : Int) : Ss := { s with mv := now, ws := s.ws.set ad x, lg := s.lg ++ [⟨now, i, 2, ad, 0, x, 0⟩], ah := s.ah ++ [s.ws[ad]?.getD 0] }
set_option maxRecDepth 100000 in
set_option maxHeartbeats 1000000 in
theorem desk_store (h : D W0 U0 S0 X0 p i now X false s W) (hb : Me.Roomy s.lg s.ah) (ad : Nat) (hi : ad < s.ws.length) (x : Int) :
    Calls Try.prog 77 #[.pointer (some ⟨p.bd, 0, none⟩), .int .i64 (ad : Int), .int .u64 x] W fun e w' => e = .returned (.tuple #[]) ∧ D W0 U0 S0 X0 p i now X true (s.stores i now ad x) w' := by
  have C := access_yes h
  have L : ∀ w1, D W0 U0 S0 X0 p i now X false { s with mv := now } w1 → Calls Try.prog 87 #[.pointer (some ⟨p.bm, 0, none⟩), .int .i64 (i : Int), .int .i64 (ad : Int), .int .u64 x] w1 fun e w' => e = .returned (.int .i64 0) ∧ D W0 U0 S0 X0 p i now X false (s.stores i now ad x) w' := fun w1 h1 => by
    obtain ⟨U, S, vl, va, hx, hm, hd, hU, hS0, hU0, hU1, hf⟩ := h1
    refine (store_ok hm.mem hb i x ad hi).mono ?_
    rintro e w' ⟨rfl, ⟨vl', va', hm'⟩, hf'⟩
    exact ⟨rfl, D.turned (s := { s with mv := now }) hx hm hd hU hS0 hU0 hU1 hf hm' hf'⟩
  clear h hb
  generalize s.stores i now ad x = s' at *
  generalize ({ s with mv := now } : Ss) = s1 at *
  clear hi
  go_enter Try.func77, Try.ntmps77
  go_wp2_with (go_at_call 73; refine C.mono ?_; clear C; rintro e w1 ⟨rfl, h1⟩; obtain ⟨d0, e0, e1, e2, e3, e4, e4z, b0, b1⟩ := h1.cells)
  replace h1 := Mr.hid h1
  go_region_held3 (fun w' => w'.cell? ⟨p.bd, 0, none⟩ = some (.pointer (some ⟨p.be, 0, none⟩)) ∧ w'.cell? ⟨p.be, 0, none⟩ = some (.pointer (some ⟨p.bb, 0, none⟩)) ∧ w'.cell? ⟨p.be, 2, none⟩ = some (.int .i64 (i : Int)) ∧ w'.cell? ⟨p.bb, 0, none⟩ = some (.pointer (some ⟨p.bm, 0, none⟩))) (go_keep)
    (first | (go_at_call 87; refine (L _ h1.out.drew).mono ?_; clear L; rintro e w2 ⟨rfl, h2⟩; obtain ⟨g0, g1, g2, g3, g4, g5, g5z, g6, g7⟩ := h2.cells; replace h2 := Mr.hid h2))
  go_wp2
  go_end0
  exact ⟨rfl, h2.out.spent true⟩
end
section
variable {W : World} {bd be bb : Nat} {pt : Addr} {i now : Int} {sp : Bool}
theorem now_desk (h : Dk W bd be bb pt i now sp) : Calls Try.prog 70 #[.pointer (some ⟨bd, 0, none⟩)] W fun e w' => e = .returned (.int .i64 now) ∧ w' = W := by
  have d0 := h.d0
  have e3 := h.e3
  have C := open_yes h
  clear h
  go_enter Try.func70, Try.ntmps70
  go_wp2_with (go_at_call 79; refine C.mono ?_; clear C; rintro e w' ⟨rfl, hw⟩; obtain rfl := hw.symm)
  go_ret
  exact ⟨rfl, rfl⟩
end
section
variable {W0 : World} {U0 S0 X0 : Nat → Prop} {p : Ph} {i : Nat} {now : Int} {X : Nat → Obj → Prop} {s : Ss} {W : World} {sp : Bool}
set_option maxRecDepth 100000 in
set_option maxHeartbeats 1000000 in
theorem point_any (h : D W0 U0 S0 X0 p i now X sp s W) (t : Th) (ht : s.ths[i]? = some t) (c : Nat) (hcall : t.call = c) (cl : Cl) (hc : s.cls[c]? = some cl) (m : Int) :
    Calls Try.prog 69 #[.pointer (some ⟨p.bd, 0, none⟩), .int .i64 m] W fun e w' => e = .returned (.tuple #[]) ∧ D W0 U0 S0 X0 p i now X sp { s with cls := s.cls.set c { cl with pt := m } } w' := by
  have hcl : c < s.cls.length := (List.getElem?_eq_some_iff.1 hc).1
  obtain ⟨gc, cc, hv⟩ := h.vc (by omega)
  have C := open_yes h.dk
  obtain ⟨d0, e0, e1, e2, e3, e4, e4z, b0, b1⟩ := h.cells
  obtain ⟨a0, a0z⟩ := h.atTh i 2 t _ ht rfl
  obtain ⟨k0, k0z⟩ := h.atCl hv c 6 cl _ hc rfl
  obtain ⟨n1, n2, n3, n4⟩ := h.gcne hv
  have fin := fun (w1 : World) (h1 : D W0 U0 S0 X0 p i now X sp s w1) => h1.putCl hv c 6 cl { cl with pt := m } (.int .i64 m) hc (by decide) rfl
  rw [hcall] at a0
  rw [hv] at b1
  generalize hN : s.cls.length = N at *
  replace hN := Mr.hid hN
  replace h := Mr.hid h
  go_enter Try.func69, Try.ntmps69
  go_wp2_with (go_at_call 79; refine C.mono ?_; clear C; rintro e w' ⟨rfl, hw⟩; obtain rfl := hw.symm)
  go_region_held3 (fun w' => w'.cell? ⟨p.bd, 0, none⟩ = some (.pointer (some ⟨p.be, 0, none⟩)) ∧ w'.cell? ⟨p.be, 0, none⟩ = some (.pointer (some ⟨p.bb, 0, none⟩)) ∧ w'.cell? ⟨p.be, 1, none⟩ = some (.pointer (some ⟨p.gt, i * 5, none⟩)) ∧ w'.cell? ⟨p.bb, 1, none⟩ = some (.slice (some ⟨gc, 0, none⟩) N cc) ∧ w'.cell? ⟨p.gt, i * 5 + 2, none⟩ = some (.int .i64 (c : Int))) (go_keep) (fail)
  go_wp2
  go_end0
  exact ⟨rfl, (fin W h.out).drew⟩
end
end Go.Proofs.Ytpckcfdjgpdooaa.Ma
