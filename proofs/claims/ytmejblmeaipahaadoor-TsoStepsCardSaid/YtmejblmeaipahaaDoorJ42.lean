import Derived.Test.YtmejblmeaipahaaDoorJ40
import Derived.Test.YtmejblmeaipahaaDoorJ41
/-
  TSO: the law of steps.
-/
namespace Go.Proofs.YtmejblmeaipahaaDoor.Ts
open Go.RowKit Mr
set_option linter.unusedVariables false
theorem law_steps (aw : Option Addr) (nw cw : Nat) (ah : Option Addr) (nt ct : Nat) (l : Lt) (o : Int) (a0 : Option Addr) (n0 k0 : Nat) (a1 : Option Addr) (n1 k1 : Nat) (a2 : Option Addr) (n2 k2 : Nat) (a3 : Option Addr) (n3 k3 : Nat) (s : Sv) (t : Tn) (w : World) (hI : IsAt w aw nw l.ws) (hT : ThAt w ah nt l.th) (hz1 : nw * 8 ≤ 140737488351232) (hz2 : nt * 24 ≤ 140737488351232) (hz3 : ∀ c ∈ l.th, c.length * 56 ≤ 140737488351232) (h0 : IsAt w a0 n0 s.ws) (h1 : RgAt w a1 n1 s.rg) (h2 : IsAt w a2 n2 s.pl) (h3 : BfAt w a3 n3 s.bf) (y0 : n0 * 8 ≤ 140737488351232) (y1 : n1 * 32 ≤ 140737488351232) (y2 : n2 * 8 ≤ 140737488351232) (y3 : n3 * 24 ≤ 140737488351232) (y4 : ∀ b ∈ s.bf, b.length * 16 ≤ 140737488351232) (E : Env w) :
    Calls Tryd.prog 4 #[.agg #[.slice aw nw cw, .slice ah nt ct], .int .i64 o, .agg #[.slice a0 n0 k0, .slice a1 n1 k1, .slice a2 n2 k2, .slice a3 n3 k3], tnV t] w fun e w' => e = .returned (.bool true) ∧ Below w.heap.size w w' := by
  cases hc : chkB l with
  | false => exact steps_N aw nw cw ah nt ct l o a0 n0 k0 a1 n1 k1 a2 n2 k2 a3 n3 k3 s t w hI hT hz1 hz2 hz3 h0 h1 h2 h3 y0 y1 y2 y3 y4 E hc
  | true =>
    cases ho : ordB o with
    | false => exact steps_O aw nw cw ah nt ct l o a0 n0 k0 a1 n1 k1 a2 n2 k2 a3 n3 k3 s t w hI hT hz1 hz2 hz3 h0 h1 h2 h3 y0 y1 y2 y3 y4 E hc ho
    | true =>
      cases hb : belB l o s with
      | false => exact steps_R aw nw cw ah nt ct l o a0 n0 k0 a1 n1 k1 a2 n2 k2 a3 n3 k3 s t w hI hT hz1 hz2 hz3 h0 h1 h2 h3 y0 y1 y2 y3 y4 E hc ho hb
      | true => exact steps_G aw nw cw ah nt ct l o a0 n0 k0 a1 n1 k1 a2 n2 k2 a3 n3 k3 s t w hI hT hz1 hz2 hz3 h0 h1 h2 h3 y0 y1 y2 y3 y4 E hc ho hb
end Go.Proofs.YtmejblmeaipahaaDoor.Ts
